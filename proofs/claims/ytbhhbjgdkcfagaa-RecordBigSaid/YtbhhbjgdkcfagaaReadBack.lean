/- What was written is read; cut off it lacks bytes; unlike parts have unlike bytes: on bytes alone. -/
import Derived.Test.YtbhhbjgdkcfagaaReadM2
import Derived.Test.YtbhhbjgdkcfagaaPartFacts
import Derived.Test.YtbhhbjgdkcfagaaCodeMath
import Derived.Test.YtbhhbjgdkcfagaaCollect
namespace Go.Proofs.Ytbhhbjgdkcfagaa
open Go.RowKit Go.Shelf
set_option linter.unusedVariables false

/-- The reader has no error, and r is what lies ahead of it. -/
def Rest (s : ByteArray) (st : RSt) (r : List UInt8) : Prop := st.e = 0 ∧ s.data.toList.drop st.at_ = r ∧ st.at_ + r.length = s.size
theorem numM_back {s : ByteArray} {st : RSt} {n : Nat} {r : List UInt8} (h : Rest s st (sevL n ++ r)) (hn : n < 9223372036854775808) : (numM s st).1 = n ∧ Rest s (numM s st).2 r := by
  obtain ⟨h1, h2, h3⟩ := h
  have hg := getL_sevL n r hn
  unfold numM
  rw [if_neg (by simpa using h1), h2, hg]
  refine ⟨rfl, rfl, ?_, ?_⟩
  · show s.data.toList.drop (st.at_ + (sevL n).length) = r
    rw [← List.drop_drop, h2, List.drop_append_of_le_length (Nat.le_refl _), List.drop_length, List.nil_append]
  · show st.at_ + (sevL n).length + r.length = s.size
    rw [List.length_append] at h3; omega
theorem numTo_back {s : ByteArray} {st : RSt} {n most : Nat} {r : List UInt8} (h : Rest s st (sevL n ++ r)) (hn : n < 9223372036854775808) (hm : n ≤ most) : (numTo s most st).1 = n ∧ Rest s (numTo s most st).2 r := by
  obtain ⟨h1, h2⟩ := numM_back h hn
  unfold numTo
  rw [if_neg (by omega)]
  exact ⟨h1, h2⟩
theorem putL_cons (x : Int) (l : List Int) : putL (x :: l) = sevL x.toNat ++ putL l := rfl
theorem hardM_back {s : ByteArray} {st : RSt} {a b c : Int} {r : List UInt8} (h : Rest s st (putL [a, b, c] ++ r)) (ha : a < 9223372036854775808) (hb : b < 9223372036854775808) (hc : c < 9223372036854775808) :
    (hardM s st).1 = (a.toNat, b.toNat, c.toNat) ∧ Rest s (hardM s st).2 r := by
  simp only [putL_cons, List.append_assoc] at h
  obtain ⟨e1, h1⟩ := numM_back h (by omega)
  obtain ⟨e2, h2⟩ := numM_back h1 (by omega)
  obtain ⟨e3, h3⟩ := numM_back h2 (by omega)
  unfold hardM
  exact ⟨by rw [e1, e2, e3], by simpa [putL] using h3⟩
theorem ba_of_list (l : List UInt8) : (⟨l.toArray⟩ : ByteArray).data.toList = l := by simp
theorem txtM_back {s : ByteArray} {st : RSt} {d : ByteArray} {r : List UInt8} (h : Rest s st ((textS d).data.toList ++ r)) (hd : d.size ≤ 40) : (txtM s st).1 = d ∧ Rest s (txtM s st).2 r := by
  obtain ⟨h1, h2, h3⟩ := h
  have hr : restB s st.at_ = (⟨(sevL d.size).toArray⟩ ++ d) ++ ⟨r.toArray⟩ := by
    apply ByteArray.ext
    apply Array.toList_inj.1
    rw [restB_list, h2, ba_toList, ba_of_list]
    rfl
  have hz : (textS d).data.toList.length = (sevL d.size).length + d.size := by
    rw [ba_size]; unfold textS; rw [ByteArray.size_append]; rfl
  have ht := textsB_most d ⟨r.toArray⟩ 40 (by omega) (by omega)
  unfold txtM
  rw [if_neg (by simpa using h1), hr, ht]
  refine ⟨rfl, rfl, ?_, ?_⟩
  · show s.data.toList.drop (st.at_ + ((sevL d.size).length + d.size)) = r
    rw [← hz, ← List.drop_drop, h2, List.drop_append_of_le_length (Nat.le_refl _), List.drop_length, List.nil_append]
  · show st.at_ + ((sevL d.size).length + d.size) + r.length = s.size
    rw [List.length_append, hz] at h3; omega
/-- Entries as they were written are read, if their Indexes are. -/
theorem entM_back {s : ByteArray} {idx : Nat → RSt → Int × RSt} (pre : EntryC → List UInt8) (tx : EntryC → List UInt8) (htx : ∀ e, tx e = pre e ++ (sevL e.t.toNat ++ (textS e.d).data.toList)) :
    ∀ (l : List EntryC) (i : Nat) (st : RSt) (r : List UInt8), Rest s st (l.flatMap tx ++ r) → (∀ e ∈ l, 0 ≤ e.t ∧ e.t < 9223372036854775808 ∧ e.d.size ≤ 40) →
      (∀ j e q r2, l[j]? = some e → Rest s q (pre e ++ r2) → (idx (i + j) q).1 = e.i ∧ Rest s (idx (i + j) q).2 r2) →
      (entM s idx l.length i st).1 = l ∧ Rest s (entM s idx l.length i st).2 r
  | [], i, st, r, h, _, _ => ⟨rfl, by simpa [entM] using h⟩
  | e :: l, i, st, r, h, hw, hi => by
    simp only [List.flatMap_cons, htx, List.append_assoc] at h
    obtain ⟨w1, w2, w3⟩ := hw e List.mem_cons_self
    obtain ⟨a1, h1⟩ := hi 0 e st _ rfl h
    rw [Nat.add_zero] at a1 h1
    obtain ⟨a2, h2⟩ := numM_back h1 (by omega)
    obtain ⟨a3, h3⟩ := txtM_back h2 w3
    have hrec := entM_back pre tx htx l (i + 1) _ r (by simpa only [htx] using h3) (fun x hx => hw x (List.mem_cons_of_mem _ hx)) (fun j x q r2 hx hq => by
      have := hi (j + 1) x q r2 (by simpa using hx) hq
      rwa [show i + (j + 1) = i + 1 + j by omega] at this)
    simp only [List.length_cons, entM]
    rw [if_neg (by rw [h3.1]; simp)]
    refine ⟨?_, hrec.2⟩
    dsimp only
    rw [hrec.1, a1, a2, a3, show ((e.t.toNat : Nat) : Int) = e.t from by omega]
theorem flat_text (k : Int) (l : List EntryC) : ((l.map (textOf k)).flatMap fun s => s.data.toList) = l.flatMap fun e => (textOf k e).data.toList := by
  rw [List.flatMap_map]
theorem text6 (e : EntryC) : (textOf 6 e).data.toList = sevL e.i.toNat ++ (sevL e.t.toNat ++ (textS e.d).data.toList) := by
  simp only [textOf, if_pos, putS, ba_toList]
theorem text1 (e : EntryC) : (textOf 1 e).data.toList = [] ++ (sevL e.t.toNat ++ (textS e.d).data.toList) := by
  simp only [textOf, putS, List.nil_append]
  rw [if_neg (by decide)]
  simp only [ba_toList]
theorem fwdN_eq (p : PartC) : putL (fwdN p) = sevL ((if p.m then 1 else 0) + (if p.h then 2 else 0)) ++ ((if p.m then putL [p.i, p.t] else []) ++ ((if p.h then putL [p.ht, p.hv, p.hc] else []) ++ sevL p.len)) := by
  obtain ⟨g, k, a, len, cap, ht, hv, hc, i, t, m, h⟩ := p
  cases m <;> cases h <;> simp [fwdN, flagN, putL]

theorem fwd_back (s : ByteArray) (p : PartC) (l : List EntryC) (hl : l.length = p.len) (hk : p.k = 6) (hB : isB p l = true) (st : RSt) (r : List UInt8) (h : Rest s st (putL (fwdN p) ++ (((l.map (textOf 6)).flatMap fun s => s.data.toList) ++ r))) (g : Int) :
    (fwdM s g st).1 = ⟨g, 6, l, p.ht, p.hv, p.hc, p.i, p.t, p.m, p.h⟩ ∧ Rest s (fwdM s g st).2 r := by
  obtain ⟨hR, hwf, _, h6, hen⟩ := isB_bounds hl hB
  have hb := ((isB_iff p l).1 hB).2
  have hz : (p.m = false → p.i = 0 ∧ p.t = 0) ∧ (p.h = false → p.ht = 0 ∧ p.hv = 0 ∧ p.hc = 0) ∧ isFwdB p l = true := by
    rcases hb with hb | hb | hb | hb | hb | hb
    · have := hb.1; omega
    · have := hb.1; omega
    · have := hb.1; omega
    · have := hb.1; omega
    · have := hb.1; omega
    · exact ⟨hb.2.2.1, hb.2.2.2, hb.2.1⟩
  obtain ⟨hm0, hh0, hf⟩ := hz
  simp only [isFwdB, Bool.and_eq_true, Bool.or_eq_true, Bool.not_eq_true'] at hf
  obtain ⟨_, hf1, hf2, _⟩ := hf
  clear hb
  rw [fwdN_eq, flat_text] at h
  have hent : ∀ e ∈ l, 0 ≤ e.t ∧ e.t < 9223372036854775808 ∧ e.d.size ≤ 40 := fun e he => by have := entryB_bd (hen e he); omega
  have hidx : ∀ j e q r2, l[j]? = some e → Rest s q (sevL e.i.toNat ++ r2) → (idxRead s (0 + j) q).1 = e.i ∧ Rest s (idxRead s (0 + j) q).2 r2 := fun j e q r2 he hq => by
    have hme := List.mem_of_getElem? he
    have := entryB_bd (hen e hme)
    obtain ⟨b1, b2⟩ := numM_back hq (by omega)
    exact ⟨by unfold idxRead; rw [b1]; omega, b2⟩
  have fin : ∀ q, Rest s q (sevL p.len ++ ((l.flatMap fun e => (textOf 6 e).data.toList) ++ r)) → (entM s (idxRead s) (numTo s 6 q).1 0 (numTo s 6 q).2).1 = l ∧ Rest s (entM s (idxRead s) (numTo s 6 q).1 0 (numTo s 6 q).2).2 r := fun q hq => by
    obtain ⟨n1, n2⟩ := numTo_back (most := 6) hq (by omega) h6
    rw [n1, ← hl]
    exact entM_back (fun e => sevL e.i.toNat) (fun e => (textOf 6 e).data.toList) text6 l 0 _ r n2 hent hidx
  obtain ⟨gg, kk, a, len, cap, ht, hv, hc, i, t, m, hd⟩ := p
  dsimp only at *
  unfold fwdM
  cases m with
  | false =>
    obtain ⟨rfl, rfl⟩ := hm0 rfl
    cases hd with
    | false =>
      obtain ⟨rfl, rfl, rfl⟩ := hh0 rfl
      simp only [Bool.false_eq_true, if_false, Nat.add_zero, List.nil_append, List.append_assoc] at h
      obtain ⟨a1, h1⟩ := numTo_back (most := 3) h (by decide) (by decide)
      obtain ⟨c1, c2⟩ := fin _ h1
      simp [a1, c1, c2]
    | true =>
      have hbd := hardB_bd (hf2.resolve_left (by simp))
      simp only [Bool.false_eq_true, if_false, if_true, Nat.zero_add, List.nil_append, List.append_assoc] at h
      obtain ⟨a1, h1⟩ := numTo_back (most := 3) h (by decide) (by decide)
      obtain ⟨b1, h2⟩ := hardM_back h1 (by omega) (by omega) (by omega)
      obtain ⟨c1, c2⟩ := fin _ h2
      simp [a1, b1, c1, c2]
      omega
  | true =>
    have hi := hf1.resolve_left (by simp)
    have w1 := wB_bd hi.1; have w2 := wB_bd hi.2
    cases hd with
    | false =>
      obtain ⟨rfl, rfl, rfl⟩ := hh0 rfl
      simp only [Bool.false_eq_true, if_false, if_true, Nat.add_zero, List.nil_append, List.append_assoc, putL_cons] at h
      obtain ⟨a1, h1⟩ := numTo_back (most := 3) h (by decide) (by decide)
      obtain ⟨b1, h2⟩ := numM_back h1 (by omega)
      obtain ⟨b2, h3⟩ := numM_back h2 (by omega)
      simp only [putL, List.flatMap_nil, List.nil_append] at h3
      obtain ⟨c1, c2⟩ := fin _ h3
      simp [a1, b1, b2, c1, c2]
      omega
    | true =>
      have hbd := hardB_bd (hf2.resolve_left (by simp))
      simp only [if_true, List.append_assoc, putL_cons] at h
      obtain ⟨a1, h1⟩ := numTo_back (most := 3) h (by decide) (by decide)
      obtain ⟨b1, h2⟩ := numM_back h1 (by omega)
      obtain ⟨b2, h3⟩ := numM_back h2 (by omega)
      simp only [putL, List.flatMap_nil, List.nil_append] at h3
      obtain ⟨d1, h4⟩ := hardM_back (a := ht) (b := hv) (c := hc) (by simpa [putL] using h3) (by omega) (by omega) (by omega)
      obtain ⟨c1, c2⟩ := fin _ h4
      simp [a1, b1, b2, d1, c1, c2]
      omega

theorem headN_len (p : PartC) (l : List EntryC) : (headN p l).length ≤ 7 := by
  unfold headN
  split
  · simp
  · split
    · simp
    · split
      · simp
      · split
        · exact fwdN_len p
        · simp
theorem bytesL_len {p : PartC} {l : List EntryC} (hl : l.length = p.len) (h : isB p l = true) : (bytesL p l).length ≤ 1000 := by
  obtain ⟨_, _, _, h6, he⟩ := isB_bounds hl h
  have h1 := text_len p.k l (fun e hx => (entryB_bd (he e hx)).2.2)
  have h2 := putL_len [p.g, p.k]
  have h3 := putL_len (headN p l)
  have h4 := headN_len p l
  unfold bytesL
  simp only [List.length_append, List.length_cons, List.length_nil] at *
  omega
theorem read6_back (p : PartC) (l : List EntryC) (hl : l.length = p.len) (hk : p.k = 6) (hB : isB p l = true) (s tail : ByteArray) (hs : s = bytesS p l ++ tail) :
    readM s = (⟨p.g, 6, l, p.ht, p.hv, p.hc, p.i, p.t, p.m, p.h⟩, (bytesS p l).size, 0) := by
  have hg := ((isB_iff p l).1 hB).1
  have e1 : bytesS p l = ⟨(bytesL p l).toArray⟩ := by unfold bytesS; rw [if_pos hB]
  have hd : s.data.toList = bytesL p l ++ tail.data.toList := by rw [hs, ba_toList, e1, ba_of_list]
  have hz : s.size = (bytesL p l).length + tail.size := by rw [← ba_size, hd, List.length_append, ba_size]
  have h0 : Rest s ⟨0, 0⟩ (sevL p.g.toNat ++ (sevL p.k.toNat ++ (putL (fwdN p) ++ (((l.map (textOf 6)).flatMap fun s => s.data.toList) ++ tail.data.toList)))) := by
    have e2 : bytesL p l ++ tail.data.toList = sevL p.g.toNat ++ (sevL p.k.toNat ++ (putL (fwdN p) ++ (((l.map (textOf 6)).flatMap fun s => s.data.toList) ++ tail.data.toList))) := by
      unfold bytesL headN
      simp [hk, putL]
    refine ⟨rfl, ?_, ?_⟩
    · rw [← e2, ← hd]; simp
    · rw [← e2, List.length_append, ba_size, hz]; simp
  obtain ⟨a1, h1⟩ := numM_back h0 (by omega)
  obtain ⟨a2, h2⟩ := numTo_back (most := 6) h1 (by rw [hk]; decide) (by rw [hk]; decide)
  obtain ⟨a3, h3⟩ := fwd_back s p l hl hk hB _ _ h2 p.g
  have hgn : ((p.g.toNat : Nat) : Int) = p.g := by omega
  have hkn : p.k.toNat = 6 := by rw [hk]; rfl
  have hraw : rawM s = fwdM s p.g (numTo s 6 (numM s ⟨0, 0⟩).2).2 := by
    unfold rawM bodyM
    rw [a1, a2, hkn, hgn]
    simp
  have hat : (fwdM s p.g (numTo s 6 (numM s ⟨0, 0⟩).2).2).2.at_ = (bytesS p l).size := by
    have := h3.2.2
    rw [ba_size, hz] at this
    have e3 : (bytesS p l).size = (bytesL p l).length := by rw [e1]; rfl
    omega
  have herr : errM (rawM s) = 0 := by
    unfold errM
    rw [hraw, a3, h3.1]
    rw [if_neg]
    rintro ⟨_, hh⟩
    have := (isB_addr p.g 6 p.a p.len p.cap p.ht p.hv p.hc p.i p.t p.m p.h l).symm
    simp only [ReadC.part] at hh
    rw [hl, this] at hh
    have hp : (⟨p.g, 6, p.a, p.len, p.cap, p.ht, p.hv, p.hc, p.i, p.t, p.m, p.h⟩ : PartC) = p := by rw [← hk]
    rw [hp, hB] at hh
    cases hh
  unfold readM
  rw [if_neg (by rw [herr]; simp), hraw, a3, hat]

def stepL (n : Nat) : List EntryC := (List.range n).map fun (q : Nat) => (⟨10 + 3 * (q : Int), 2, ⟨#[]⟩⟩ : EntryC)
theorem stepL_snoc (n : Nat) : stepL (n + 1) = stepL n ++ [⟨10 + 3 * (n : Int), 2, ⟨#[]⟩⟩] := by
  unfold stepL; rw [List.range_succ, List.map_append]; rfl
theorem stepL_len (n : Nat) : (stepL n).length = n := by simp [stepL]
theorem stepL_are (n : Nat) (hn : n < 4) : areB 1099511627776 (stepL n) = true := by
  rcases (by omega : n = 0 ∨ n = 1 ∨ n = 2 ∨ n = 3) with rfl | rfl | rfl | rfl <;> kernel_rfl
theorem flags_is (n : Nat) (hn : n < 4) (a : Option Addr) (cap t : Nat) (ht : t < 65536) (m h : Bool) (hx : m = true ∨ h = true ∨ n ≠ 0) :
    isB ⟨2, 6, a, n, cap, if h then t else 0, if h then 3 else 0, 0, if m then 9 else 0, if m then t + 1 else 0, m, h⟩ (stepL n) = true := by
  rw [isB_iff]
  refine ⟨by dsimp only; decide, .inr (.inr (.inr (.inr (.inr ⟨rfl, ?_, ?_, ?_⟩))))⟩
  · simp only [isFwdB, stepL_are n hn, hardB, Bool.and_true, Bool.and_eq_true, Bool.or_eq_true, Bool.not_eq_true', decide_eq_true_eq]
    refine ⟨by rcases hx with hx | hx | hx <;> simp [hx], ?_, ?_⟩
    · cases m
      · simp
      · right; exact ⟨by decide, wB_iff.2 ⟨by simp; omega, by simp; omega⟩⟩
    · cases h
      · simp
      · right; exact ⟨wB_iff.2 ⟨by simp, by simp; omega⟩, by decide, by decide⟩
  · rintro rfl; simp
  · rintro rfl; simp
theorem flags_none (a : Option Addr) (cap : Nat) : isB ⟨2, 6, a, 0, cap, 0, 0, 0, 0, 0, false, false⟩ (stepL 0) = false := by
  rw [isB_addr]; kernel_rfl
theorem flags_bare (n : Nat) (a : Option Addr) (cap t : Nat) (m h : Bool) (hx : m = true ∨ h = true) :
    isB ⟨2, 6, a, n, cap, if h then t else 0, if h then 3 else 0, 0, if m then 9 else 0, if m then t + 1 else 0, false, false⟩ (stepL n) = false := by
  rw [Bool.eq_false_iff, Ne, isB_iff]
  rintro ⟨_, hh⟩
  rcases hh with hh | hh | hh | hh | hh | hh
  · exact absurd hh.1 (by dsimp only; decide)
  · exact absurd hh.1 (by dsimp only; decide)
  · exact absurd hh.1 (by dsimp only; decide)
  · exact absurd hh.1 (by dsimp only; decide)
  · exact absurd hh.1 (by dsimp only; decide)
  · have h1 := hh.2.2.1 rfl
    have h2 := hh.2.2.2 rfl
    rcases hx with rfl | rfl
    · simp at h1
    · simp at h2

theorem steps1_idx : ∀ (l : List EntryC) (p : Int), 1 ≤ p → p ≤ 1099511627776 → (stepsOf (some p) l).all (stepB 1) = true → ∀ (j : Nat) (e : EntryC), l[j]? = some e → e.i = p + 1 + j
  | [], _, _, _, _, j, e, h => by simp at h
  | x :: r, p, h1, h2, ha, j, e, h => by
    simp only [stepsOf, List.all_cons, Bool.and_eq_true, stepB] at ha
    obtain ⟨⟨hx, hw⟩, hr⟩ := ha
    have hb := entryB_bd hx
    have e1 : wrap64 (x.i - p) = x.i - p := IntWalk.wrap64_in _ (by omega)
    rw [e1] at hw
    have hw := wB_bd hw
    cases j with
    | zero => simp at h; subst h; simp; omega
    | succ j =>
      have := steps1_idx r x.i (by omega) (by omega) hr j e (by simpa using h)
      rw [this]; push_cast; omega
theorem are1_idx {e0 : EntryC} {r : List EntryC} (h : areB 1 (e0 :: r) = true) : ∀ (j : Nat) (e : EntryC), (e0 :: r)[j]? = some e → e.i = e0.i + j := by
  have hb := entryB_bd ((areB_bd h).2 e0 List.mem_cons_self)
  simp only [areB, Bool.and_eq_true, stepsOf, List.all_cons] at h
  intro j e he
  cases j with
  | zero => simp at he; subst he; simp
  | succ j =>
    have := steps1_idx r e0.i (by omega) (by omega) h.2.2 j e (by simpa using he)
    rw [this]; push_cast; omega

theorem bodyM_back (s : ByteArray) (p : PartC) (l : List EntryC) (hl : l.length = p.len) (hB : isB p l = true) (st : RSt) (r : List UInt8) (h : Rest s st (putL (headN p l) ++ (((l.map (textOf p.k)).flatMap fun s => s.data.toList) ++ r))) :
    (bodyM s p.g.toNat p.k.toNat st).1 = ⟨p.g, p.k, l, p.ht, p.hv, p.hc, p.i, p.t, p.m, p.h⟩ ∧ Rest s (bodyM s p.g.toNat p.k.toNat st).2 r := by
  obtain ⟨hg, hk⟩ := (isB_iff p l).1 hB
  obtain ⟨hR, _, _, h6, hen⟩ := isB_bounds hl hB
  have hgn : ((p.g.toNat : Nat) : Int) = p.g := by omega
  rcases hk with hk | hk | hk | hk | hk | hk
  · obtain ⟨k1, hn0, ha, z1, z2, z3, z4, z5, z6, z7⟩ := hk
    have hidx := fun e0 r (e : l = e0 :: r) => are1_idx (e0 := e0) (r := r) (e ▸ ha)
    obtain ⟨g, k, a, len, cap, ht, hv, hc, i, t, m, hd⟩ := p
    dsimp only at *
    subst k1 z1 z2 z3 z4 z5 z6 z7
    cases l with
    | nil => simp at hl; omega
    | cons e0 l0 =>
      have hbd := entryB_bd (hen e0 List.mem_cons_self)
      have hent : ∀ e ∈ (e0 :: l0), 0 ≤ e.t ∧ e.t < 9223372036854775808 ∧ e.d.size ≤ 40 := fun e he => by have := entryB_bd (hen e he); omega
      rw [flat_text] at h
      simp only [headN] at h
      simp only [if_pos, putL_cons, List.head?_cons, Option.map_some, Option.getD_some, List.append_assoc] at h
      obtain ⟨a1, h1⟩ := numTo_back (most := 6) h (by omega) (by simpa using h6)
      obtain ⟨a2, h2⟩ := numM_back h1 (by omega)
      simp only [putL, List.flatMap_nil, List.nil_append] at h2
      have hn : ((len : Int)).toNat = (e0 :: l0).length := by rw [hl]; omega
      obtain ⟨a3, h3⟩ := entM_back (s := s) (idx := idxFrom e0.i.toNat) (fun _ => []) (fun e => (textOf 1 e).data.toList) text1 (e0 :: l0) 0 _ r h2 hent (fun j e q r2 he hq => by
        have hje := hidx e0 l0 rfl j e he
        have hbe := entryB_bd (hen e (List.mem_of_getElem? he))
        refine ⟨?_, by simpa [idxFrom] using hq⟩
        unfold idxFrom
        dsimp only
        rw [show (((e0.i.toNat : Nat) : Int) + ((0 + j : Nat) : Int)) = e.i from by rw [hje]; push_cast; omega]
        exact IntWalk.wrap64_in _ (by omega))
      rw [← hn, ← a1] at a3 h3
      rw [← a2] at a3 h3
      unfold bodyM
      simp only [show (1 : Int).toNat = 1 from rfl, if_pos]
      exact ⟨by rw [a3, hgn], h3⟩
  · obtain ⟨k1, hh, rfl, z4, z5, z6, z7⟩ := hk
    have hbd := hardB_bd hh
    obtain ⟨g, k, a, len, cap, ht, hv, hc, i, t, m, hd⟩ := p
    dsimp only at *
    subst k1 z4 z5 z6 z7
    simp only [headN, List.map_nil, List.flatMap_nil, List.nil_append] at h
    rw [if_neg (by decide), if_pos (by decide)] at h
    obtain ⟨a1, h1⟩ := hardM_back h (by omega) (by omega) (by omega)
    unfold bodyM
    simp only [show (2 : Int).toNat = 2 from rfl]
    rw [if_neg (by decide), if_pos (by decide)]
    exact ⟨by simp [a1]; omega, h1⟩
  · obtain ⟨k1, hi, ht0, rfl, z1, z2, z3, z6, z7⟩ := hk
    have w1 := wB_bd hi
    have w2 : 0 ≤ p.t ∧ p.t ≤ 1099511627776 := by rcases ht0 with h0 | h0; have := wB_bd h0; omega; omega
    obtain ⟨g, k, a, len, cap, ht, hv, hc, i, t, m, hd⟩ := p
    dsimp only at *
    subst k1 z1 z2 z3 z6 z7
    simp only [headN, List.map_nil, List.flatMap_nil, List.nil_append] at h
    rw [if_neg (by decide), if_neg (by decide), if_pos (by decide)] at h
    simp only [putL_cons, List.append_assoc] at h
    obtain ⟨a1, h1⟩ := numM_back h (by omega)
    obtain ⟨a2, h2⟩ := numM_back h1 (by omega)
    simp only [putL, List.flatMap_nil, List.nil_append] at h2
    unfold bodyM
    simp only [show (3 : Int).toNat = 3 from rfl]
    rw [if_neg (by decide), if_neg (by decide), if_pos (by decide)]
    exact ⟨by simp [a1, a2]; omega, h2⟩
  · obtain ⟨k1, hi, ht0, rfl, z1, z2, z3, z6, z7⟩ := hk
    have w1 := wB_bd hi
    have w2 := wB_bd ht0
    obtain ⟨g, k, a, len, cap, ht, hv, hc, i, t, m, hd⟩ := p
    dsimp only at *
    subst k1 z1 z2 z3 z6 z7
    simp only [headN, List.map_nil, List.flatMap_nil, List.nil_append] at h
    rw [if_neg (by decide), if_neg (by decide), if_pos (by decide)] at h
    simp only [putL_cons, List.append_assoc] at h
    obtain ⟨a1, h1⟩ := numM_back h (by omega)
    obtain ⟨a2, h2⟩ := numM_back h1 (by omega)
    simp only [putL, List.flatMap_nil, List.nil_append] at h2
    unfold bodyM
    simp only [show (4 : Int).toNat = 4 from rfl]
    rw [if_neg (by decide), if_neg (by decide), if_pos (by decide)]
    exact ⟨by simp [a1, a2]; omega, h2⟩
  · obtain ⟨k1, rfl, z1, z2, z3, z4, z5, z6, z7⟩ := hk
    obtain ⟨g, k, a, len, cap, ht, hv, hc, i, t, m, hd⟩ := p
    dsimp only at *
    subst k1 z1 z2 z3 z4 z5 z6 z7
    simp only [headN, List.map_nil, List.flatMap_nil, List.nil_append] at h
    rw [if_neg (by decide), if_neg (by decide), if_neg (by decide), if_neg (by decide)] at h
    simp only [putL, List.flatMap_nil, List.nil_append] at h
    unfold bodyM
    simp only [show (5 : Int).toNat = 5 from rfl]
    rw [if_neg (by decide), if_neg (by decide), if_neg (by decide), if_neg (by decide)]
    exact ⟨by simp; omega, h⟩
  · have hk6 := hk.1
    have e1 : headN p l = fwdN p := by simp [headN, hk6]
    rw [e1, hk6] at h
    have := fwd_back s p l hl hk6 hB st r h p.g
    unfold bodyM
    rw [hk6]
    simp only [show (6 : Int).toNat = 6 from rfl]
    rw [if_neg (by decide), if_neg (by decide), if_neg (by decide), if_pos (by decide), hgn]
    exact this

theorem rest_start (p : PartC) (l : List EntryC) (s tail : ByteArray) (hB : isB p l = true) (hs : s = bytesS p l ++ tail) :
    Rest s ⟨0, 0⟩ (sevL p.g.toNat ++ (sevL p.k.toNat ++ (putL (headN p l) ++ (((l.map (textOf p.k)).flatMap fun s => s.data.toList) ++ tail.data.toList)))) := by
  have e1 : bytesS p l = ⟨(bytesL p l).toArray⟩ := by unfold bytesS; rw [if_pos hB]
  have hd : s.data.toList = bytesL p l ++ tail.data.toList := by rw [hs, ba_toList, e1, ba_of_list]
  have hz : s.size = (bytesL p l).length + tail.size := by rw [← ba_size, hd, List.length_append, ba_size]
  have e2 : bytesL p l ++ tail.data.toList = sevL p.g.toNat ++ (sevL p.k.toNat ++ (putL (headN p l) ++ (((l.map (textOf p.k)).flatMap fun s => s.data.toList) ++ tail.data.toList))) := by
    unfold bytesL
    simp [putL]
  refine ⟨rfl, ?_, ?_⟩
  · rw [← e2, ← hd]; simp
  · rw [← e2, List.length_append, ba_size, hz]; simp
/-- A part's bytes, whatever stands behind them, are read as the part. -/
theorem read_back (p : PartC) (l : List EntryC) (hl : l.length = p.len) (hB : isB p l = true) (s tail : ByteArray) (hs : s = bytesS p l ++ tail) :
    readM s = (⟨p.g, p.k, l, p.ht, p.hv, p.hc, p.i, p.t, p.m, p.h⟩, (bytesS p l).size, 0) := by
  obtain ⟨hg, hk⟩ := (isB_iff p l).1 hB
  have hk6 : 0 ≤ p.k ∧ p.k ≤ 6 := by
    rcases hk with hk | hk | hk | hk | hk | hk <;> (have := hk.1; omega)
  have h0 := rest_start p l s tail hB hs
  obtain ⟨a1, h1⟩ := numM_back h0 (by omega)
  obtain ⟨a2, h2⟩ := numTo_back (most := 6) h1 (by omega) (by omega)
  obtain ⟨a3, h3⟩ := bodyM_back s p l hl hB _ _ h2
  have hraw : rawM s = bodyM s p.g.toNat p.k.toNat (numTo s 6 (numM s ⟨0, 0⟩).2).2 := by
    unfold rawM
    rw [a1, a2]
  have e1 : bytesS p l = ⟨(bytesL p l).toArray⟩ := by unfold bytesS; rw [if_pos hB]
  have hat : (bodyM s p.g.toNat p.k.toNat (numTo s 6 (numM s ⟨0, 0⟩).2).2).2.at_ = (bytesS p l).size := by
    have := h3.2.2
    have hz : s.size = (bytesS p l).size + tail.size := by rw [hs, ByteArray.size_append]
    rw [ba_size, hz] at this
    omega
  have herr : errM (rawM s) = 0 := by
    unfold errM
    rw [hraw, a3, h3.1]
    rw [if_neg]
    rintro ⟨_, hh⟩
    simp only [ReadC.part] at hh
    rw [hl, ← isB_addr p.g p.k p.a p.len p.cap p.ht p.hv p.hc p.i p.t p.m p.h l, hB] at hh
    cases hh
  unfold readM
  rw [if_neg (by rw [herr]; simp), hraw, a3, hat]

/-- The reader has no error, and of r only a beginning lies ahead of it. -/
def Cut (s : ByteArray) (st : RSt) (r : List UInt8) : Prop := st.e = 0 ∧ ∃ m, m < r.length ∧ s.data.toList.drop st.at_ = r.take m
theorem cut_nil {s : ByteArray} {st : RSt} (h : Cut s st []) : False := by obtain ⟨_, m, hm, _⟩ := h; simp at hm
theorem numM_cut {s : ByteArray} {st : RSt} {n : Nat} {r : List UInt8} (h : Cut s st (sevL n ++ r)) (hn : n < 9223372036854775808) : ((numM s st).1 = 0 ∧ (numM s st).2.e = 10) ∨ ((numM s st).1 = n ∧ Cut s (numM s st).2 r) := by
  obtain ⟨h1, m, hm, h2⟩ := h
  unfold numM
  rw [if_neg (by simpa using h1)]
  by_cases hs : m < (sevL n).length
  · left
    rw [h2, List.take_append_of_le_length (Nat.le_of_lt hs), getL_short n m hn hs]
    exact ⟨rfl, rfl⟩
  · right
    have e1 : (sevL n ++ r).take m = sevL n ++ r.take (m - (sevL n).length) := by
      rw [List.take_append, List.take_of_length_le (by omega)]
    rw [h2, e1, getL_sevL n _ hn]
    refine ⟨rfl, rfl, m - (sevL n).length, ?_, ?_⟩
    · rw [List.length_append] at hm; omega
    · show s.data.toList.drop (st.at_ + (sevL n).length) = _
      rw [← List.drop_drop, h2, e1, List.drop_append_of_le_length (Nat.le_refl _), List.drop_length, List.nil_append]
theorem numM_e10 {s : ByteArray} {st : RSt} (h : st.e = 10) : numM s st = (0, st) := by unfold numM; rw [if_pos (by rw [h]; decide)]
theorem numTo_e10 {s : ByteArray} {st : RSt} (h : st.e = 10) (most : Nat) : numTo s most st = (0, st) := by
  unfold numTo; rw [numM_e10 h, if_neg (by simp)]
theorem txtM_err {s : ByteArray} {st : RSt} (h : st.e = 10) : txtM s st = (⟨#[]⟩, st) := by unfold txtM; rw [if_pos (by rw [h]; decide)]
theorem hardM_e10 {s : ByteArray} {st : RSt} (h : st.e = 10) : hardM s st = ((0, 0, 0), st) := by
  unfold hardM; simp [numM_e10 h]
theorem numTo_cut {s : ByteArray} {st : RSt} {n most : Nat} {r : List UInt8} (h : Cut s st (sevL n ++ r)) (hn : n < 9223372036854775808) (hm : n ≤ most) : ((numTo s most st).1 = 0 ∧ (numTo s most st).2.e = 10) ∨ ((numTo s most st).1 = n ∧ Cut s (numTo s most st).2 r) := by
  have hc := numM_cut h hn
  unfold numTo
  rw [if_neg (by rcases hc with hc | hc <;> (have := hc.1; omega))]
  exact hc
theorem hardM_cut {s : ByteArray} {st : RSt} {a b c : Int} {r : List UInt8} (h : Cut s st (putL [a, b, c] ++ r)) (ha : a < 9223372036854775808) (hb : b < 9223372036854775808) (hc : c < 9223372036854775808) :
    (hardM s st).2.e = 10 ∨ Cut s (hardM s st).2 r := by
  simp only [putL_cons, List.append_assoc] at h
  unfold hardM
  rcases numM_cut h (by omega) with ⟨_, h1⟩ | ⟨_, h1⟩
  · left; simp [numM_e10 h1, h1]
  · rcases numM_cut h1 (by omega) with ⟨_, h2⟩ | ⟨_, h2⟩
    · left; simp [numM_e10 h2, h2]
    · rcases numM_cut h2 (by omega) with ⟨_, h3⟩ | ⟨_, h3⟩
      · left; exact h3
      · right; simpa [putL] using h3
theorem txtM_cut {s : ByteArray} {st : RSt} {d : ByteArray} {r : List UInt8} (h : Cut s st ((textS d).data.toList ++ r)) (hd : d.size ≤ 40) : (txtM s st).2.e = 10 ∨ ((txtM s st).1 = d ∧ Cut s (txtM s st).2 r) := by
  obtain ⟨h1, m, hm, h2⟩ := h
  have hz : (textS d).data.toList = sevL d.size ++ d.data.toList := by
    unfold textS; rw [ba_toList, ba_of_list]
  have hzl : (textS d).data.toList.length = (sevL d.size).length + d.size := by rw [hz, List.length_append, ba_size]
  by_cases hs : m < (textS d).data.toList.length
  · left
    have hl : (restB s st.at_).data.toList = (sevL d.size ++ d.data.toList).take m := by
      rw [restB_list, h2, List.take_append_of_le_length (Nat.le_of_lt hs), hz]
    have hsz : (restB s st.at_).size = m := by
      rw [← ba_size, hl, List.length_take, List.length_append, ba_size]; omega
    unfold txtM
    rw [if_neg (by simpa using h1)]
    show (textsB (restB s st.at_) 40).2.2 = 10
    unfold textsB
    rw [hsz, hl]
    by_cases hs2 : m < (sevL d.size).length
    · rw [List.take_append_of_le_length (Nat.le_of_lt hs2), getL_short d.size m (by omega) hs2, if_pos (by decide)]
    · rw [List.take_append, List.take_of_length_le (show (sevL d.size).length ≤ m by omega), getL_sevL d.size _ (by omega)]
      rw [if_neg (by simp), if_neg (by dsimp only; omega), if_pos (by dsimp only; omega)]
  · right
    have e1 : ((textS d).data.toList ++ r).take m = (textS d).data.toList ++ r.take (m - (textS d).data.toList.length) := by
      rw [List.take_append, List.take_of_length_le (by omega)]
    have hr : restB s st.at_ = (⟨(sevL d.size).toArray⟩ ++ d) ++ ⟨(r.take (m - (textS d).data.toList.length)).toArray⟩ := by
      apply ByteArray.ext
      apply Array.toList_inj.1
      rw [restB_list, h2, e1, ba_toList, ba_of_list]
      rfl
    have ht := textsB_most d ⟨(r.take (m - (textS d).data.toList.length)).toArray⟩ 40 (by omega) (by omega)
    unfold txtM
    rw [if_neg (by simpa using h1), hr, ht]
    refine ⟨rfl, rfl, m - (textS d).data.toList.length, ?_, ?_⟩
    · rw [List.length_append] at hm; omega
    · show s.data.toList.drop (st.at_ + ((sevL d.size).length + d.size)) = _
      rw [← hzl, ← List.drop_drop, h2, e1, List.drop_append_of_le_length (Nat.le_refl _), List.drop_length, List.nil_append]
theorem entM_e10 {s : ByteArray} {idx : Nat → RSt → Int × RSt} (hi : ∀ i st, st.e = 10 → (idx i st).2.e = 10) : ∀ (m i : Nat) (st : RSt), st.e = 10 → (entM s idx m i st).2.e = 10
  | 0, _, _, h => h
  | m + 1, i, st, h => by
    have h1 := hi i st h
    rw [entM, numM_e10 h1, txtM_err h1]
    rw [if_pos (by dsimp only; rw [h1]; decide)]
    exact h1
theorem entM_cut {s : ByteArray} {idx : Nat → RSt → Int × RSt} (pre : EntryC → List UInt8) (tx : EntryC → List UInt8) (htx : ∀ e, tx e = pre e ++ (sevL e.t.toNat ++ (textS e.d).data.toList)) (hi : ∀ i st, st.e = 10 → (idx i st).2.e = 10) :
    ∀ (l : List EntryC) (i : Nat) (st : RSt) (r : List UInt8), Cut s st (l.flatMap tx ++ r) → (∀ e ∈ l, 0 ≤ e.t ∧ e.t < 9223372036854775808 ∧ e.d.size ≤ 40) →
      (∀ j e q r2, l[j]? = some e → Cut s q (pre e ++ r2) → (idx (i + j) q).2.e = 10 ∨ Cut s (idx (i + j) q).2 r2) →
      (entM s idx l.length i st).2.e = 10 ∨ Cut s (entM s idx l.length i st).2 r
  | [], i, st, r, h, _, _ => .inr (by simpa [entM] using h)
  | e :: l, i, st, r, h, hw, hc => by
    simp only [List.flatMap_cons, htx, List.append_assoc] at h
    obtain ⟨w1, w2, w3⟩ := hw e List.mem_cons_self
    have err : ∀ q : RSt, (txtM s (numM s (idx i st).2).2).2.e = 10 → (entM s idx (e :: l).length i st).2.e = 10 := fun _ h3 => by
      simp only [List.length_cons, entM]
      rw [if_pos (by rw [h3]; decide)]
      exact h3
    rcases (by simpa using hc 0 e st _ rfl h) with h1 | h1
    · exact .inl (err st (by rw [numM_e10 h1, txtM_err h1]; exact h1))
    · rcases numM_cut h1 (by omega) with ⟨_, h2⟩ | ⟨_, h2⟩
      · exact .inl (err st (by rw [txtM_err h2]; exact h2))
      · rcases txtM_cut h2 w3 with h3 | ⟨_, h3⟩
        · exact .inl (err st h3)
        · have hrec := entM_cut pre tx htx hi l (i + 1) _ r (by simpa only [htx] using h3) (fun x hx => hw x (List.mem_cons_of_mem _ hx)) (fun j x q r2 hx hq => by
            have := hc (j + 1) x q r2 (by simpa using hx) hq
            rwa [show i + (j + 1) = i + 1 + j by omega] at this)
          simp only [List.length_cons, entM]
          rw [if_neg (by rw [h3.1]; simp)]
          exact hrec

theorem idxRead_err (s : ByteArray) : ∀ i st, st.e = 10 → (idxRead s i st).2.e = 10 := fun i st h => by unfold idxRead; rw [numM_e10 h]; exact h
theorem idxFrom_err (n : Nat) : ∀ i st, st.e = 10 → (idxFrom n i st).2.e = 10 := fun _ _ h => h
theorem tail_err {s : ByteArray} {q : RSt} (h : q.e = 10) : (entM s (idxRead s) (numTo s 6 q).1 0 (numTo s 6 q).2).2.e = 10 := by
  rw [numTo_e10 h]; exact entM_e10 (idxRead_err s) _ _ _ h

theorem fwd_cut (s : ByteArray) (p : PartC) (l : List EntryC) (hl : l.length = p.len) (hk : p.k = 6) (hB : isB p l = true) (st : RSt) (h : Cut s st (putL (fwdN p) ++ ((l.map (textOf 6)).flatMap fun s => s.data.toList))) (g : Int) :
    (fwdM s g st).2.e = 10 := by
  obtain ⟨hR, hwf, _, h6, hen⟩ := isB_bounds hl hB
  rw [fwdN_eq, flat_text] at h
  have hent : ∀ e ∈ l, 0 ≤ e.t ∧ e.t < 9223372036854775808 ∧ e.d.size ≤ 40 := fun e he => by have := entryB_bd (hen e he); omega
  have hidx : ∀ j e q r2, l[j]? = some e → Cut s q (sevL e.i.toNat ++ r2) → (idxRead s (0 + j) q).2.e = 10 ∨ Cut s (idxRead s (0 + j) q).2 r2 := fun j e q r2 he hq => by
    have hme := List.mem_of_getElem? he
    have := entryB_bd (hen e hme)
    rcases numM_cut hq (by omega) with ⟨_, b⟩ | ⟨_, b⟩
    · exact .inl b
    · exact .inr b
  have fin : ∀ q, Cut s q (sevL p.len ++ (l.flatMap fun e => (textOf 6 e).data.toList)) → (entM s (idxRead s) (numTo s 6 q).1 0 (numTo s 6 q).2).2.e = 10 := fun q hq => by
    rcases numTo_cut (most := 6) hq (by omega) h6 with ⟨n1, n2⟩ | ⟨n1, n2⟩
    · exact entM_e10 (idxRead_err s) _ _ _ n2
    · rw [n1, ← hl]
      rcases entM_cut (r := []) (fun e => sevL e.i.toNat) (fun e => (textOf 6 e).data.toList) text6 (idxRead_err s) l 0 _ (by simpa using n2) hent hidx with hh | hh
      · exact hh
      · exact (cut_nil hh).elim
  obtain ⟨hR1, hR2, hR3, hR4, hR5, hR6, _⟩ := hR
  obtain ⟨gg, kk, a, len, cap, ht, hv, hc, i, t, m, hd⟩ := p
  dsimp only at *
  simp only [List.append_assoc] at h
  have hflag : (if m = true then 1 else 0) + (if hd = true then 2 else 0) ≤ 3 := by split <;> split <;> omega
  unfold fwdM
  rcases numTo_cut (most := 3) h (by omega) hflag with ⟨f1, f2⟩ | ⟨f1, f2⟩
  · simp only [f1]
    exact tail_err f2
  · simp only [f1]
    cases m with
    | false =>
      cases hd with
      | false =>
        simp only [Bool.false_eq_true, if_false, List.nil_append] at f2 ⊢
        exact fin _ f2
      | true =>
        simp only [Bool.false_eq_true, if_false, if_true, List.nil_append] at f2 ⊢
        rcases hardM_cut f2 hR2 hR3 hR4 with h2 | h2
        · exact tail_err h2
        · exact fin _ h2
    | true =>
      simp only [if_true, putL_cons, List.append_assoc] at f2
      rcases numM_cut f2 (by omega) with ⟨_, h1⟩ | ⟨_, h1⟩
      · cases hd with
        | false => simp only [Bool.false_eq_true, if_false, if_true] at *; simp [numM_e10 h1]; exact tail_err h1
        | true => simp only [if_true] at *; simp [numM_e10 h1, hardM_e10 h1]; exact tail_err h1
      · rcases numM_cut h1 (by omega) with ⟨_, h2⟩ | ⟨_, h2⟩
        · cases hd with
          | false => simp only [Bool.false_eq_true, if_false, if_true] at *; simp; exact tail_err h2
          | true => simp only [if_true] at *; simp [hardM_e10 h2]; exact tail_err h2
        · simp only [putL, List.flatMap_nil, List.nil_append] at h2
          cases hd with
          | false =>
            simp only [Bool.false_eq_true, if_false, if_true, List.nil_append] at *
            exact fin _ h2
          | true =>
            simp only [if_true] at *
            rcases hardM_cut (a := ht) (b := hv) (c := hc) (by simpa [putL] using h2) hR2 hR3 hR4 with h3 | h3
            · exact tail_err h3
            · exact fin _ h3

theorem bodyM_cut (s : ByteArray) (p : PartC) (l : List EntryC) (hl : l.length = p.len) (hB : isB p l = true) (st : RSt) (h : Cut s st (putL (headN p l) ++ ((l.map (textOf p.k)).flatMap fun s => s.data.toList))) (g : Nat) :
    (bodyM s g p.k.toNat st).2.e = 10 := by
  obtain ⟨hg, hk⟩ := (isB_iff p l).1 hB
  obtain ⟨hR, _, _, h6, hen⟩ := isB_bounds hl hB
  obtain ⟨hR1, hR2, hR3, hR4, hR5, hR6, _⟩ := hR
  rcases hk with hk | hk | hk | hk | hk | hk
  · obtain ⟨k1, hn0, ha, _⟩ := hk
    obtain ⟨g', k, a, len, cap, ht, hv, hc, i, t, m, hd⟩ := p
    dsimp only at *
    subst k1
    cases l with
    | nil => simp at hl; omega
    | cons e0 l0 =>
      have hbd := entryB_bd (hen e0 List.mem_cons_self)
      have hent : ∀ e ∈ (e0 :: l0), 0 ≤ e.t ∧ e.t < 9223372036854775808 ∧ e.d.size ≤ 40 := fun e he => by have := entryB_bd (hen e he); omega
      rw [flat_text] at h
      simp only [headN] at h
      simp only [if_pos, putL_cons, List.head?_cons, Option.map_some, Option.getD_some, List.append_assoc] at h
      have hn : ((len : Int)).toNat = (e0 :: l0).length := by rw [hl]; omega
      unfold bodyM
      simp only [show (1 : Int).toNat = 1 from rfl, if_pos]
      rcases numTo_cut (most := 6) h (by omega) (by simpa using h6) with ⟨_, h1⟩ | ⟨a1, h1⟩
      · rw [numM_e10 h1]; exact entM_e10 (idxFrom_err _) _ _ _ h1
      · rcases numM_cut h1 (by omega) with ⟨_, h2⟩ | ⟨_, h2⟩
        · exact entM_e10 (idxFrom_err _) _ _ _ h2
        · simp only [putL, List.flatMap_nil, List.nil_append] at h2
          rw [a1, hn]
          rcases entM_cut (r := []) (fun _ => []) (fun e => (textOf 1 e).data.toList) text1 (idxFrom_err _) (e0 :: l0) 0 _ (by simpa using h2) hent (fun j e q r2 he hq => .inr (by simpa [idxFrom] using hq)) with hh | hh
          · exact hh
          · exact (cut_nil hh).elim
  · obtain ⟨k1, _, rfl, _⟩ := hk
    obtain ⟨g', k, a, len, cap, ht, hv, hc, i, t, m, hd⟩ := p
    dsimp only at *
    subst k1
    simp only [headN, List.map_nil, List.flatMap_nil] at h
    rw [if_neg (by decide), if_pos (by decide)] at h
    unfold bodyM
    simp only [show (2 : Int).toNat = 2 from rfl]
    rw [if_neg (by decide), if_pos (by decide)]
    rcases hardM_cut h hR2 hR3 hR4 with h1 | h1
    · exact h1
    · exact (cut_nil h1).elim
  · obtain ⟨k1, _, _, rfl, _⟩ := hk
    obtain ⟨g', k, a, len, cap, ht, hv, hc, i, t, m, hd⟩ := p
    dsimp only at *
    subst k1
    simp only [headN, List.map_nil, List.flatMap_nil] at h
    rw [if_neg (by decide), if_neg (by decide), if_pos (by decide)] at h
    simp only [putL_cons, List.append_assoc] at h
    unfold bodyM
    simp only [show (3 : Int).toNat = 3 from rfl]
    rw [if_neg (by decide), if_neg (by decide), if_pos (by decide)]
    rcases numM_cut h (by omega) with ⟨_, h1⟩ | ⟨_, h1⟩
    · simp [numM_e10 h1, h1]
    · rcases numM_cut h1 (by omega) with ⟨_, h2⟩ | ⟨_, h2⟩
      · exact h2
      · exact (cut_nil (by simpa [putL] using h2)).elim
  · obtain ⟨k1, _, _, rfl, _⟩ := hk
    obtain ⟨g', k, a, len, cap, ht, hv, hc, i, t, m, hd⟩ := p
    dsimp only at *
    subst k1
    simp only [headN, List.map_nil, List.flatMap_nil] at h
    rw [if_neg (by decide), if_neg (by decide), if_pos (by decide)] at h
    simp only [putL_cons, List.append_assoc] at h
    unfold bodyM
    simp only [show (4 : Int).toNat = 4 from rfl]
    rw [if_neg (by decide), if_neg (by decide), if_pos (by decide)]
    rcases numM_cut h (by omega) with ⟨_, h1⟩ | ⟨_, h1⟩
    · simp [numM_e10 h1, h1]
    · rcases numM_cut h1 (by omega) with ⟨_, h2⟩ | ⟨_, h2⟩
      · exact h2
      · exact (cut_nil (by simpa [putL] using h2)).elim
  · obtain ⟨k1, rfl, _⟩ := hk
    obtain ⟨g', k, a, len, cap, ht, hv, hc, i, t, m, hd⟩ := p
    dsimp only at *
    subst k1
    simp only [headN, List.map_nil, List.flatMap_nil] at h
    rw [if_neg (by decide), if_neg (by decide), if_neg (by decide), if_neg (by decide)] at h
    exact (cut_nil (by simpa [putL] using h)).elim
  · have hk6 := hk.1
    have e1 : headN p l = fwdN p := by simp [headN, hk6]
    rw [e1, hk6] at h
    unfold bodyM
    rw [hk6]
    simp only [show (6 : Int).toNat = 6 from rfl]
    rw [if_neg (by decide), if_neg (by decide), if_neg (by decide), if_pos (by decide)]
    exact fwd_cut s p l hl hk6 hB st h _

/-- A part's bytes, cut off, lack bytes. -/
theorem read_cut (p : PartC) (l : List EntryC) (hl : l.length = p.len) (hB : isB p l = true) (m : Nat) (hm : m < (bytesS p l).size) (s : ByteArray) (hs : s.data.toList = (bytesS p l).data.toList.take m) :
    readM s = (zeroR, 0, 10) := by
  obtain ⟨hg, hk⟩ := (isB_iff p l).1 hB
  have hk6 : 0 ≤ p.k ∧ p.k ≤ 6 := by
    rcases hk with hk | hk | hk | hk | hk | hk <;> (have := hk.1; omega)
  have e1 : bytesS p l = ⟨(bytesL p l).toArray⟩ := by unfold bytesS; rw [if_pos hB]
  have e2 : (bytesS p l).data.toList = sevL p.g.toNat ++ (sevL p.k.toNat ++ (putL (headN p l) ++ ((l.map (textOf p.k)).flatMap fun s => s.data.toList))) := by
    rw [e1, ba_of_list]; unfold bytesL; simp [putL]
  have h0 : Cut s ⟨0, 0⟩ (sevL p.g.toNat ++ (sevL p.k.toNat ++ (putL (headN p l) ++ ((l.map (textOf p.k)).flatMap fun s => s.data.toList)))) :=
    ⟨rfl, m, by rw [← e2, ba_size]; exact hm, by rw [List.drop_zero, hs, e2]⟩
  have key : (rawM s).2.e = 10 := by
    unfold rawM
    rcases numM_cut h0 (by omega) with ⟨_, h1⟩ | ⟨a1, h1⟩
    · rw [numTo_e10 h1]
      unfold bodyM
      dsimp only
      rw [if_neg (by decide), if_neg (by decide), if_neg (by decide), if_neg (by decide)]
      exact h1
    · rcases numTo_cut (most := 6) h1 (by omega) (by omega) with ⟨a2, h2⟩ | ⟨a2, h2⟩
      · rw [a2]
        unfold bodyM
        rw [if_neg (by decide), if_neg (by decide), if_neg (by decide), if_neg (by decide)]
        exact h2
      · rw [a2]
        exact bodyM_cut s p l hl hB _ h2 _
  have herr : errM (rawM s) = 10 := by
    unfold errM
    rw [if_neg (by rintro ⟨h, _⟩; rw [key] at h; cases h), key]
  unfold readM
  rw [if_pos (by rw [herr]; decide), herr]

theorem same_bytes {p q : PartC} {l m : List EntryC} (hl : l.length = p.len) (hm : m.length = q.len) (hp : isB p l = true) (hq : isB q m = true) : bytesS p l = bytesS q m ↔ sameB p q l m = true := by
  constructor
  · intro h
    have h1 := read_back p l hl hp (bytesS p l) ⟨#[]⟩ (by apply ByteArray.ext; simp)
    have h2 := read_back q m hm hq (bytesS p l) ⟨#[]⟩ (by rw [h]; apply ByteArray.ext; simp)
    rw [h1] at h2
    simp only [Prod.mk.injEq, ReadC.mk.injEq] at h2
    obtain ⟨⟨a1, a2, a3, a4, a5, a6, a7, a8, a9, a10⟩, _⟩ := h2
    exact sameB_iff.2 ⟨a1, a2, a3, ⟨a4, a5, a6⟩, a7, a8, a9, a10⟩
  · intro h
    obtain ⟨a1, a2, rfl, ⟨a4, a5, a6⟩, a7, a8, a9, a10⟩ := sameB_iff.1 h
    have hle : p.len = q.len := by omega
    have e : bytesL p l = bytesL q l := by
      unfold bytesL headN fwdN flagN
      rw [a1, a2, a4, a5, a6, a7, a8, a9, a10, hle]
    unfold bytesS
    rw [if_pos hp, if_pos hq, e]
theorem bytes_two {p : PartC} {l : List EntryC} (hp : isB p l = true) : 2 ≤ (bytesS p l).size := by
  have h1 := sevL_pos p.g.toNat
  have h2 := sevL_pos p.k.toNat
  unfold bytesS
  rw [if_pos hp]
  show 2 ≤ (bytesL p l).length
  unfold bytesL
  simp only [putL, List.flatMap_cons, List.flatMap_nil, List.length_append, List.append_nil]
  omega

end Go.Proofs.Ytbhhbjgdkcfagaa
