/- Law PartBack: for every input the call answers true; its arguments read as they did. No condition. -/
import Derived.Test.YtpogklceaoiacaaLaw
import Derived.Test.YtpogklceaoiacaaBackW
namespace Go.Proofs.Ytpogklceaoiacaa.partBack
open Go.ChangeShapes Go.WideShapes Go.ChangeAt Go.RowKit Go.Shelf
open Go.ChangeMaps (open_string shut_string)
set_option linter.unusedVariables false
attribute [local go_sem] Oper.semAt_some wide_fn wide_round_fn


theorem walk (w : World) (p : PartC) (l1 : List EntryC) (hg : goodPart p) (hl1 : l1.length = p.len) (hr1 : RowV w p.a p.len 3 (entryCells l1)) (hg1 : ∀ e ∈ l1, goodEntry e)
    (q : PartC) (l2 : List EntryC) (hgq : goodPart q) (hl2 : l2.length = q.len) (hr2 : RowV w q.a q.len 3 (entryCells l2)) (hg2 : ∀ e ∈ l2, goodEntry e) (T : ByteArray) (hT : T.size ≤ maxLen) (n : Nat) (hn : n < 256) :
    Calls Try.prog 5 #[p.val, q.val, .string T, .int .u8 n] w fun e w' => e = .returned (.bool true) ∧ Below w.heap.size w w' := by
  obtain ⟨g1, k1, a1, len1, cap1, ht1, hv1, hc1, i1, t1, m1, h1⟩ := p
  obtain ⟨g2, k2, a2, len2, cap2, ht2, hv2, hc2, i2, t2, m2, h2⟩ := q
  by_cases hf1 : fewB l1 = true
  · by_cases hf2 : fewB l2 = true
    · by_cases h60 : T.size ≤ 60
      · by_cases hI : isB (⟨g1, k1, a1, len1, cap1, ht1, hv1, hc1, i1, t1, m1, h1⟩ : PartC) l1 = true
        · by_cases hJ : isB (⟨g2, k2, a2, len2, cap2, ht2, hv2, hc2, i2, t2, m2, h2⟩ : PartC) l2 = true
          · by_cases hS : sameB (⟨g1, k1, a1, len1, cap1, ht1, hv1, hc1, i1, t1, m1, h1⟩ : PartC) (⟨g2, k2, a2, len2, cap2, ht2, hv2, hc2, i2, t2, m2, h2⟩ : PartC) l1 l2 = true
            · exact back_eq w g1 k1 a1 len1 cap1 ht1 hv1 hc1 i1 t1 m1 h1 l1 hl1 hr1 hg1 g2 k2 a2 len2 cap2 ht2 hv2 hc2 i2 t2 m2 h2 l2 hl2 hr2 hg2 T hT n hn hf1 hf2 h60 hI hJ hS
            · exact back_ne w g1 k1 a1 len1 cap1 ht1 hv1 hc1 i1 t1 m1 h1 l1 hl1 hr1 hg1 g2 k2 a2 len2 cap2 ht2 hv2 hc2 i2 t2 m2 h2 l2 hl2 hr2 hg2 T hT n hn hf1 hf2 h60 hI hJ (Bool.eq_false_iff.2 hS)
          · exact back_no w g1 k1 a1 len1 cap1 ht1 hv1 hc1 i1 t1 m1 h1 l1 hl1 hr1 hg1 g2 k2 a2 len2 cap2 ht2 hv2 hc2 i2 t2 m2 h2 l2 hl2 hr2 hg2 T hT n hn hf1 hf2 h60 hI (Bool.eq_false_iff.2 hJ)
        · exact back_none w g1 k1 a1 len1 cap1 ht1 hv1 hc1 i1 t1 m1 h1 l1 hl1 hr1 hg1 g2 k2 a2 len2 cap2 ht2 hv2 hc2 i2 t2 m2 h2 l2 hl2 hr2 hg2 T hT n hn hf1 hf2 h60 (Bool.eq_false_iff.2 hI)
      · exact back_tail w g1 k1 a1 len1 cap1 ht1 hv1 hc1 i1 t1 m1 h1 l1 hl1 hr1 hg1 g2 k2 a2 len2 cap2 ht2 hv2 hc2 i2 t2 m2 h2 l2 hl2 hr2 hg2 T hT n hn hf1 hf2 (by omega)
    · exact back_few2 w g1 k1 a1 len1 cap1 ht1 hv1 hc1 i1 t1 m1 h1 l1 hl1 hr1 hg1 g2 k2 a2 len2 cap2 ht2 hv2 hc2 i2 t2 m2 h2 l2 hl2 hr2 hg2 T hT n hn hf1 (Bool.eq_false_iff.2 hf2)
  · exact back_few1 w g1 k1 a1 len1 cap1 ht1 hv1 hc1 i1 t1 m1 h1 l1 hl1 hr1 hg1 g2 k2 a2 len2 cap2 ht2 hv2 hc2 i2 t2 m2 h2 l2 hl2 hr2 hg2 T hT n hn (Bool.eq_false_iff.2 hf1)

set_option maxRecDepth 100000 in
theorem lifted (os : Os) (started : os.Started) (H : Type) (enc : TypeId × Value → H) :
    ReturnsInHanded {} Try.checked os 5 .any (Rows.partBackSpec.pre6 enc Try.prog Try.f5 Rows.partBackRow.domain false) (Rows.partBackSpec.post enc Try.prog Try.f5 false true false false) := by
  refine returnsInHanded_of_change (C := Try.checked) Try.own started (by kernel_rfl) Try.func5
    (ChangeSpec.witness6 (enc := enc) (C := Try.checked) false ⟨#[], #[.agg #[.int .i64 0, .int .i64 0, .slice none 0 0, .int .i64 0, .int .i64 0, .int .i64 0, .int .i64 0, .int .i64 0, .bool false, .bool false], .agg #[.int .i64 0, .int .i64 0, .slice none 0 0, .int .i64 0, .int .i64 0, .int .i64 0, .int .i64 0, .int .i64 0, .bool false, .bool false], .string ⟨#[]⟩, .int .u8 0], []⟩ 8 (by kernel_rfl) (by kernel_rfl) (by kernel_rfl) (by kernel_rfl)) ?_
  intro W base args ds gs before hval hW _ _
  refine law_contract (T := 4) (n := 4) Try.laid Try.underlying4 rfl rfl ⟨rfl, fun H ds h => by match ds, h with | [_, _, _, _], _ => rfl⟩ (of_all (by kernel_rfl)) hW ?_
  intro ps hA
  rw [Try.params5] at hA hval
  obtain ⟨v0, vs0, d0, ds0, p0, q0, hargs, rfl, rfl, h0, r0⟩ := trodAll_cons hA
  obtain ⟨v1, vs1, d1, ds1, p1, q1, rfl, rfl, rfl, h1, r1⟩ := trodAll_cons r0
  obtain ⟨v2, vs2, d2, ds2, p2, q2, rfl, rfl, rfl, h2, r2⟩ := trodAll_cons r1
  obtain ⟨v3, vs3, d3, ds3, p3, q3, rfl, rfl, rfl, h3, r3⟩ := trodAll_cons r2
  obtain ⟨rfl, rfl, rfl⟩ := trodAll_nil r3
  obtain rfl : args = #[v0, v1, v2, v3] := by cases args; simp_all
  obtain ⟨p0, rfl, g0, l0, k0, w0, e0⟩ := open_part (hval 0 26 v0 rfl rfl) h0
  obtain ⟨p1, rfl, g1, l1, k1, w1, e1⟩ := open_part (hval 1 26 v1 rfl rfl) h1
  obtain ⟨a2, rfl, rfl, rfl, w2⟩ := open_string Try.underlying9 (hval 2 9 v2 rfl rfl) h2
  obtain ⟨a3, rfl, rfl, rfl, w3⟩ := open_int Try.underlying5 (hval 3 5 v3 rfl rfl) h3
  obtain ⟨n3, rfl, b3⟩ := nat_of_u8 w3
  exact walk W p0 l0 g0 k0 w0 e0 p1 l1 g1 k1 w1 e1 a2 w2 n3 b3

theorem holds : Rows.PartBackSaid :=
  OpenClaim.holds_of_wide 5 Try.f5 rfl rfl rfl rfl rfl rfl rfl ⟨rfl, rfl, rfl, rfl, rfl⟩ rfl rfl rfl rfl rfl (by kernel_rfl) Try.func5 (by kernel_rfl)
    (of_decide_eq_true (by kernel_rfl)) (by unfold Func.isWrapper; first | (rw [if_pos (by decide +kernel)]; kernel_rfl) | (rw [if_neg (by decide +kernel)]; exact ⟨rfl, rfl⟩))
    (fun os started H enc _ => lifted os started H enc)

end Go.Proofs.Ytpogklceaoiacaa.partBack
