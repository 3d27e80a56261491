/- What was written is read: on bytes alone. -/
import Derived.Test.YtpogklceaoiacaaReadM2
import Derived.Test.YtpogklceaoiacaaPartFacts
import Derived.Test.YtpogklceaoiacaaCodeMath
namespace Go.Proofs.Ytpogklceaoiacaa
open Go.RowKit Go.Shelf
set_option linter.unusedVariables false

/-- The reader has no error, and r is what lies ahead of it. -/
def Rest (s : ByteArray) (st : RSt) (r : List UInt8) : Prop := st.e = 0 ∧ s.data.toList.drop st.at_ = r ∧ st.at_ + r.length = s.size
theorem numM_back {s : ByteArray} {st : RSt} {n : Nat} {r : List UInt8} (h : Rest s st (sevL n ++ r)) (hn : n < 9223372036854775808) : (numM s st).1 = n ∧ Rest s (numM s st).2 r := by
  obtain ⟨h1, h2, h3⟩ := h
  have hg := getL_sevL n r hn
  unfold numM
  rw [if_neg (by simpa using h1), h2, hg]
  refine ⟨rfl, rfl, ?_, ?_⟩
  · show s.data.toList.drop (st.at_ + (sevL n).length) = r
    rw [← List.drop_drop, h2, List.drop_append_of_le_length (Nat.le_refl _), List.drop_length, List.nil_append]
  · show st.at_ + (sevL n).length + r.length = s.size
    rw [List.length_append] at h3; omega
theorem numTo_back {s : ByteArray} {st : RSt} {n most : Nat} {r : List UInt8} (h : Rest s st (sevL n ++ r)) (hn : n < 9223372036854775808) (hm : n ≤ most) : (numTo s most st).1 = n ∧ Rest s (numTo s most st).2 r := by
  obtain ⟨h1, h2⟩ := numM_back h hn
  unfold numTo
  rw [if_neg (by omega)]
  exact ⟨h1, h2⟩
theorem putL_cons (x : Int) (l : List Int) : putL (x :: l) = sevL x.toNat ++ putL l := rfl
theorem hardM_back {s : ByteArray} {st : RSt} {a b c : Int} {r : List UInt8} (h : Rest s st (putL [a, b, c] ++ r)) (ha : a < 9223372036854775808) (hb : b < 9223372036854775808) (hc : c < 9223372036854775808) :
    (hardM s st).1 = (a.toNat, b.toNat, c.toNat) ∧ Rest s (hardM s st).2 r := by
  simp only [putL_cons, List.append_assoc] at h
  obtain ⟨e1, h1⟩ := numM_back h (by omega)
  obtain ⟨e2, h2⟩ := numM_back h1 (by omega)
  obtain ⟨e3, h3⟩ := numM_back h2 (by omega)
  unfold hardM
  exact ⟨by rw [e1, e2, e3], by simpa [putL] using h3⟩
theorem ba_of_list (l : List UInt8) : (⟨l.toArray⟩ : ByteArray).data.toList = l := by simp
theorem txtM_back {s : ByteArray} {st : RSt} {d : ByteArray} {r : List UInt8} (h : Rest s st ((textS d).data.toList ++ r)) (hd : d.size ≤ 40) : (txtM s st).1 = d ∧ Rest s (txtM s st).2 r := by
  obtain ⟨h1, h2, h3⟩ := h
  have hr : restB s st.at_ = (⟨(sevL d.size).toArray⟩ ++ d) ++ ⟨r.toArray⟩ := by
    apply ByteArray.ext
    apply Array.toList_inj.1
    rw [restB_list, h2, ba_toList, ba_of_list]
    rfl
  have hz : (textS d).data.toList.length = (sevL d.size).length + d.size := by
    rw [ba_size]; unfold textS; rw [ByteArray.size_append]; rfl
  have ht := textsB_most d ⟨r.toArray⟩ 40 (by omega) (by omega)
  unfold txtM
  rw [if_neg (by simpa using h1), hr, ht]
  refine ⟨rfl, rfl, ?_, ?_⟩
  · show s.data.toList.drop (st.at_ + ((sevL d.size).length + d.size)) = r
    rw [← hz, ← List.drop_drop, h2, List.drop_append_of_le_length (Nat.le_refl _), List.drop_length, List.nil_append]
  · show st.at_ + ((sevL d.size).length + d.size) + r.length = s.size
    rw [List.length_append, hz] at h3; omega
/-- Entries as they were written are read, if their Indexes are. -/
theorem entM_back {s : ByteArray} {idx : Nat → RSt → Int × RSt} (pre : EntryC → List UInt8) (tx : EntryC → List UInt8) (htx : ∀ e, tx e = pre e ++ (sevL e.t.toNat ++ (textS e.d).data.toList)) :
    ∀ (l : List EntryC) (i : Nat) (st : RSt) (r : List UInt8), Rest s st (l.flatMap tx ++ r) → (∀ e ∈ l, 0 ≤ e.t ∧ e.t < 9223372036854775808 ∧ e.d.size ≤ 40) →
      (∀ j e q r2, l[j]? = some e → Rest s q (pre e ++ r2) → (idx (i + j) q).1 = e.i ∧ Rest s (idx (i + j) q).2 r2) →
      (entM s idx l.length i st).1 = l ∧ Rest s (entM s idx l.length i st).2 r
  | [], i, st, r, h, _, _ => ⟨rfl, by simpa [entM] using h⟩
  | e :: l, i, st, r, h, hw, hi => by
    simp only [List.flatMap_cons, htx, List.append_assoc] at h
    obtain ⟨w1, w2, w3⟩ := hw e List.mem_cons_self
    obtain ⟨a1, h1⟩ := hi 0 e st _ rfl h
    rw [Nat.add_zero] at a1 h1
    obtain ⟨a2, h2⟩ := numM_back h1 (by omega)
    obtain ⟨a3, h3⟩ := txtM_back h2 w3
    have hrec := entM_back pre tx htx l (i + 1) _ r (by simpa only [htx] using h3) (fun x hx => hw x (List.mem_cons_of_mem _ hx)) (fun j x q r2 hx hq => by
      have := hi (j + 1) x q r2 (by simpa using hx) hq
      rwa [show i + (j + 1) = i + 1 + j by omega] at this)
    simp only [List.length_cons, entM]
    rw [if_neg (by rw [h3.1]; simp)]
    refine ⟨?_, hrec.2⟩
    dsimp only
    rw [hrec.1, a1, a2, a3, show ((e.t.toNat : Nat) : Int) = e.t from by omega]
theorem flat_text (k : Int) (l : List EntryC) : ((l.map (textOf k)).flatMap fun s => s.data.toList) = l.flatMap fun e => (textOf k e).data.toList := by
  rw [List.flatMap_map]
theorem text6 (e : EntryC) : (textOf 6 e).data.toList = sevL e.i.toNat ++ (sevL e.t.toNat ++ (textS e.d).data.toList) := by
  simp only [textOf, if_pos, putS, ba_toList]
theorem text1 (e : EntryC) : (textOf 1 e).data.toList = [] ++ (sevL e.t.toNat ++ (textS e.d).data.toList) := by
  simp only [textOf, putS, List.nil_append]
  rw [if_neg (by decide)]
  simp only [ba_toList]
theorem fwdN_eq (p : PartC) : putL (fwdN p) = sevL ((if p.m then 1 else 0) + (if p.h then 2 else 0)) ++ ((if p.m then putL [p.i, p.t] else []) ++ ((if p.h then putL [p.ht, p.hv, p.hc] else []) ++ sevL p.len)) := by
  obtain ⟨g, k, a, len, cap, ht, hv, hc, i, t, m, h⟩ := p
  cases m <;> cases h <;> simp [fwdN, flagN, putL]

theorem fwd_back (s : ByteArray) (p : PartC) (l : List EntryC) (hl : l.length = p.len) (hk : p.k = 6) (hB : isB p l = true) (st : RSt) (r : List UInt8) (h : Rest s st (putL (fwdN p) ++ (((l.map (textOf 6)).flatMap fun s => s.data.toList) ++ r))) (g : Int) :
    (fwdM s g st).1 = ⟨g, 6, l, p.ht, p.hv, p.hc, p.i, p.t, p.m, p.h⟩ ∧ Rest s (fwdM s g st).2 r := by
  obtain ⟨hR, hwf, _, h6, hen⟩ := isB_bounds hl hB
  have hb := ((isB_iff p l).1 hB).2
  have hz : (p.m = false → p.i = 0 ∧ p.t = 0) ∧ (p.h = false → p.ht = 0 ∧ p.hv = 0 ∧ p.hc = 0) ∧ isFwdB p l = true := by
    rcases hb with hb | hb | hb | hb | hb | hb
    · have := hb.1; omega
    · have := hb.1; omega
    · have := hb.1; omega
    · have := hb.1; omega
    · have := hb.1; omega
    · exact ⟨hb.2.2.1, hb.2.2.2, hb.2.1⟩
  obtain ⟨hm0, hh0, hf⟩ := hz
  simp only [isFwdB, Bool.and_eq_true, Bool.or_eq_true, Bool.not_eq_true'] at hf
  obtain ⟨_, hf1, hf2, _⟩ := hf
  clear hb
  rw [fwdN_eq, flat_text] at h
  have hent : ∀ e ∈ l, 0 ≤ e.t ∧ e.t < 9223372036854775808 ∧ e.d.size ≤ 40 := fun e he => by have := entryB_bd (hen e he); omega
  have hidx : ∀ j e q r2, l[j]? = some e → Rest s q (sevL e.i.toNat ++ r2) → (idxRead s (0 + j) q).1 = e.i ∧ Rest s (idxRead s (0 + j) q).2 r2 := fun j e q r2 he hq => by
    have hme := List.mem_of_getElem? he
    have := entryB_bd (hen e hme)
    obtain ⟨b1, b2⟩ := numM_back hq (by omega)
    exact ⟨by unfold idxRead; rw [b1]; omega, b2⟩
  have fin : ∀ q, Rest s q (sevL p.len ++ ((l.flatMap fun e => (textOf 6 e).data.toList) ++ r)) → (entM s (idxRead s) (numTo s 6 q).1 0 (numTo s 6 q).2).1 = l ∧ Rest s (entM s (idxRead s) (numTo s 6 q).1 0 (numTo s 6 q).2).2 r := fun q hq => by
    obtain ⟨n1, n2⟩ := numTo_back (most := 6) hq (by omega) h6
    rw [n1, ← hl]
    exact entM_back (fun e => sevL e.i.toNat) (fun e => (textOf 6 e).data.toList) text6 l 0 _ r n2 hent hidx
  obtain ⟨gg, kk, a, len, cap, ht, hv, hc, i, t, m, hd⟩ := p
  dsimp only at *
  unfold fwdM
  cases m with
  | false =>
    obtain ⟨rfl, rfl⟩ := hm0 rfl
    cases hd with
    | false =>
      obtain ⟨rfl, rfl, rfl⟩ := hh0 rfl
      simp only [Bool.false_eq_true, if_false, Nat.add_zero, List.nil_append, List.append_assoc] at h
      obtain ⟨a1, h1⟩ := numTo_back (most := 3) h (by decide) (by decide)
      obtain ⟨c1, c2⟩ := fin _ h1
      simp [a1, c1, c2]
    | true =>
      have hbd := hardB_bd (hf2.resolve_left (by simp))
      simp only [Bool.false_eq_true, if_false, if_true, Nat.zero_add, List.nil_append, List.append_assoc] at h
      obtain ⟨a1, h1⟩ := numTo_back (most := 3) h (by decide) (by decide)
      obtain ⟨b1, h2⟩ := hardM_back h1 (by omega) (by omega) (by omega)
      obtain ⟨c1, c2⟩ := fin _ h2
      simp [a1, b1, c1, c2]
      omega
  | true =>
    have hi := hf1.resolve_left (by simp)
    have w1 := wB_bd hi.1; have w2 := wB_bd hi.2
    cases hd with
    | false =>
      obtain ⟨rfl, rfl, rfl⟩ := hh0 rfl
      simp only [Bool.false_eq_true, if_false, if_true, Nat.add_zero, List.nil_append, List.append_assoc, putL_cons] at h
      obtain ⟨a1, h1⟩ := numTo_back (most := 3) h (by decide) (by decide)
      obtain ⟨b1, h2⟩ := numM_back h1 (by omega)
      obtain ⟨b2, h3⟩ := numM_back h2 (by omega)
      simp only [putL, List.flatMap_nil, List.nil_append] at h3
      obtain ⟨c1, c2⟩ := fin _ h3
      simp [a1, b1, b2, c1, c2]
      omega
    | true =>
      have hbd := hardB_bd (hf2.resolve_left (by simp))
      simp only [if_true, List.append_assoc, putL_cons] at h
      obtain ⟨a1, h1⟩ := numTo_back (most := 3) h (by decide) (by decide)
      obtain ⟨b1, h2⟩ := numM_back h1 (by omega)
      obtain ⟨b2, h3⟩ := numM_back h2 (by omega)
      simp only [putL, List.flatMap_nil, List.nil_append] at h3
      obtain ⟨d1, h4⟩ := hardM_back (a := ht) (b := hv) (c := hc) (by simpa [putL] using h3) (by omega) (by omega) (by omega)
      obtain ⟨c1, c2⟩ := fin _ h4
      simp [a1, b1, b2, d1, c1, c2]
      omega

end Go.Proofs.Ytpogklceaoiacaa
