/- Parts written anew: their bytes read; the ones of law PartFlags. -/
import Derived.Test.YtpogklceaoiacaaReadBack
import Derived.Test.YtpogklceaoiacaaCollect
namespace Go.Proofs.Ytpogklceaoiacaa
open Go.RowKit Go.Shelf
set_option linter.unusedVariables false

theorem headN_len (p : PartC) (l : List EntryC) : (headN p l).length ≤ 7 := by
  unfold headN
  split
  · simp
  · split
    · simp
    · split
      · simp
      · split
        · exact fwdN_len p
        · simp
theorem bytesL_len {p : PartC} {l : List EntryC} (hl : l.length = p.len) (h : isB p l = true) : (bytesL p l).length ≤ 1000 := by
  obtain ⟨_, _, _, h6, he⟩ := isB_bounds hl h
  have h1 := text_len p.k l (fun e hx => (entryB_bd (he e hx)).2.2)
  have h2 := putL_len [p.g, p.k]
  have h3 := putL_len (headN p l)
  have h4 := headN_len p l
  unfold bytesL
  simp only [List.length_append, List.length_cons, List.length_nil] at *
  omega
theorem read6_back (p : PartC) (l : List EntryC) (hl : l.length = p.len) (hk : p.k = 6) (hB : isB p l = true) (s tail : ByteArray) (hs : s = bytesS p l ++ tail) :
    readM s = (⟨p.g, 6, l, p.ht, p.hv, p.hc, p.i, p.t, p.m, p.h⟩, (bytesS p l).size, 0) := by
  have hg := ((isB_iff p l).1 hB).1
  have e1 : bytesS p l = ⟨(bytesL p l).toArray⟩ := by unfold bytesS; rw [if_pos hB]
  have hd : s.data.toList = bytesL p l ++ tail.data.toList := by rw [hs, ba_toList, e1, ba_of_list]
  have hz : s.size = (bytesL p l).length + tail.size := by rw [← ba_size, hd, List.length_append, ba_size]
  have h0 : Rest s ⟨0, 0⟩ (sevL p.g.toNat ++ (sevL p.k.toNat ++ (putL (fwdN p) ++ (((l.map (textOf 6)).flatMap fun s => s.data.toList) ++ tail.data.toList)))) := by
    have e2 : bytesL p l ++ tail.data.toList = sevL p.g.toNat ++ (sevL p.k.toNat ++ (putL (fwdN p) ++ (((l.map (textOf 6)).flatMap fun s => s.data.toList) ++ tail.data.toList))) := by
      unfold bytesL headN
      simp [hk, putL]
    refine ⟨rfl, ?_, ?_⟩
    · rw [← e2, ← hd]; simp
    · rw [← e2, List.length_append, ba_size, hz]; simp
  obtain ⟨a1, h1⟩ := numM_back h0 (by omega)
  obtain ⟨a2, h2⟩ := numTo_back (most := 6) h1 (by rw [hk]; decide) (by rw [hk]; decide)
  obtain ⟨a3, h3⟩ := fwd_back s p l hl hk hB _ _ h2 p.g
  have hgn : ((p.g.toNat : Nat) : Int) = p.g := by omega
  have hkn : p.k.toNat = 6 := by rw [hk]; rfl
  have hraw : rawM s = fwdM s p.g (numTo s 6 (numM s ⟨0, 0⟩).2).2 := by
    unfold rawM bodyM
    rw [a1, a2, hkn, hgn]
    simp
  have hat : (fwdM s p.g (numTo s 6 (numM s ⟨0, 0⟩).2).2).2.at_ = (bytesS p l).size := by
    have := h3.2.2
    rw [ba_size, hz] at this
    have e3 : (bytesS p l).size = (bytesL p l).length := by rw [e1]; rfl
    omega
  have herr : errM (rawM s) = 0 := by
    unfold errM
    rw [hraw, a3, h3.1]
    rw [if_neg]
    rintro ⟨_, hh⟩
    have := (isB_addr p.g 6 p.a p.len p.cap p.ht p.hv p.hc p.i p.t p.m p.h l).symm
    simp only [ReadC.part] at hh
    rw [hl, this] at hh
    have hp : (⟨p.g, 6, p.a, p.len, p.cap, p.ht, p.hv, p.hc, p.i, p.t, p.m, p.h⟩ : PartC) = p := by rw [← hk]
    rw [hp, hB] at hh
    cases hh
  unfold readM
  rw [if_neg (by rw [herr]; simp), hraw, a3, hat]

def stepL (n : Nat) : List EntryC := (List.range n).map fun (q : Nat) => (⟨10 + 3 * (q : Int), 2, ⟨#[]⟩⟩ : EntryC)
theorem stepL_snoc (n : Nat) : stepL (n + 1) = stepL n ++ [⟨10 + 3 * (n : Int), 2, ⟨#[]⟩⟩] := by
  unfold stepL; rw [List.range_succ, List.map_append]; rfl
theorem stepL_len (n : Nat) : (stepL n).length = n := by simp [stepL]
theorem stepL_are (n : Nat) (hn : n < 4) : areB 1099511627776 (stepL n) = true := by
  rcases (by omega : n = 0 ∨ n = 1 ∨ n = 2 ∨ n = 3) with rfl | rfl | rfl | rfl <;> kernel_rfl
theorem flags_is (n : Nat) (hn : n < 4) (a : Option Addr) (cap t : Nat) (ht : t < 65536) (m h : Bool) (hx : m = true ∨ h = true ∨ n ≠ 0) :
    isB ⟨2, 6, a, n, cap, if h then t else 0, if h then 3 else 0, 0, if m then 9 else 0, if m then t + 1 else 0, m, h⟩ (stepL n) = true := by
  rw [isB_iff]
  refine ⟨by dsimp only; decide, .inr (.inr (.inr (.inr (.inr ⟨rfl, ?_, ?_, ?_⟩))))⟩
  · simp only [isFwdB, stepL_are n hn, hardB, Bool.and_true, Bool.and_eq_true, Bool.or_eq_true, Bool.not_eq_true', decide_eq_true_eq]
    refine ⟨by rcases hx with hx | hx | hx <;> simp [hx], ?_, ?_⟩
    · cases m
      · simp
      · right; exact ⟨by decide, wB_iff.2 ⟨by simp; omega, by simp; omega⟩⟩
    · cases h
      · simp
      · right; exact ⟨wB_iff.2 ⟨by simp, by simp; omega⟩, by decide, by decide⟩
  · rintro rfl; simp
  · rintro rfl; simp
theorem flags_none (a : Option Addr) (cap : Nat) : isB ⟨2, 6, a, 0, cap, 0, 0, 0, 0, 0, false, false⟩ (stepL 0) = false := by
  rw [isB_addr]; kernel_rfl
theorem flags_bare (n : Nat) (a : Option Addr) (cap t : Nat) (m h : Bool) (hx : m = true ∨ h = true) :
    isB ⟨2, 6, a, n, cap, if h then t else 0, if h then 3 else 0, 0, if m then 9 else 0, if m then t + 1 else 0, false, false⟩ (stepL n) = false := by
  rw [Bool.eq_false_iff, Ne, isB_iff]
  rintro ⟨_, hh⟩
  rcases hh with hh | hh | hh | hh | hh | hh
  · exact absurd hh.1 (by dsimp only; decide)
  · exact absurd hh.1 (by dsimp only; decide)
  · exact absurd hh.1 (by dsimp only; decide)
  · exact absurd hh.1 (by dsimp only; decide)
  · exact absurd hh.1 (by dsimp only; decide)
  · have h1 := hh.2.2.1 rfl
    have h2 := hh.2.2.2 rfl
    rcases hx with rfl | rfl
    · simp at h1
    · simp at h2

end Go.Proofs.Ytpogklceaoiacaa
