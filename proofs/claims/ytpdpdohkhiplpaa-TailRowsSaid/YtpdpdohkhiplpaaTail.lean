/- The contracts of package tail's functions: Judge, Seqs. -/
import Derived.Test.YtpdpdohkhiplpaaRowV
import Derived.Test.YtpdpdohkhiplpaaProg
namespace Go.Proofs.Ytpdpdohkhiplpaa
open Go.RowKit Go.Shelf
set_option linter.unusedVariables false
attribute [local go_sem] Oper.semAt_some wide_fn wide_round_fn

def judgeB (last : Bool) (at_ c : Int) : Int × Int := if c = 2 then (at_, 0) else if c = 3 ∨ c = 4 then (if last = true ∧ 16 ≤ at_ then (at_, 0) else (0, 21)) else (0, 21)

set_option maxRecDepth 100000 in
set_option maxHeartbeats 1000000 in
theorem judge_any (last : Bool) (at_ c : Int) (w : World) : Gives Try.prog 26 #[.bool last, .int .i64 at_, .int .i64 c] w (.tuple #[.int .i64 (judgeB last at_ c).1, .int .i64 (judgeB last at_ c).2]) := by
  obtain ⟨R, hR⟩ : ∃ R, R = judgeB last at_ c := ⟨_, rfl⟩
  rw [← hR]
  unfold judgeB at hR
  have i0 : ∀ w, (Instr.index 66 (.agg #[.int .i64 2, .bool false, .int .i64 3, .bool true, .int .i64 4, .bool true]) (.int .i64 0)).run Try.prog w = .ok (.agg #[.int .i64 2, .bool false]) w := fun _ => by kernel_rfl
  have i1 : ∀ w, (Instr.index 66 (.agg #[.int .i64 2, .bool false, .int .i64 3, .bool true, .int .i64 4, .bool true]) (.int .i64 1)).run Try.prog w = .ok (.agg #[.int .i64 3, .bool true]) w := fun _ => by kernel_rfl
  have i2 : ∀ w, (Instr.index 66 (.agg #[.int .i64 2, .bool false, .int .i64 3, .bool true, .int .i64 4, .bool true]) (.int .i64 2)).run Try.prog w = .ok (.agg #[.int .i64 4, .bool true]) w := fun _ => by kernel_rfl
  have HR := Lib.hid hR
  clear hR
  unfold Gives
  go_enter Try.func26, Try.ntmps26
  go_wp2
  go_step3
  go_wp2
  go_step3
  go_wp2
  go_loopw [16] (fun q wr => ∃ k : Nat, k ≤ 3 ∧ q = .int .i64 k ∧ (k < 1 ∨ c ≠ 2) ∧ (k < 2 ∨ c ≠ 3) ∧ (k < 3 ∨ c ≠ 4) ∧ Below w.heap.size w wr) (fun q _ => 3 - (intOf q).toNat)
  case atStart => exact ⟨0, by omega, rfl, .inl (by omega), .inl (by omega), .inl (by omega), (Below.refl _ _).alloc (Nat.le_refl _) _⟩
  case round =>
    obtain ⟨k, hk, rfl, h1, h2, h3, hB⟩ := hrel
    have hk6 : k = 0 ∨ k = 1 ∨ k = 2 ∨ k = 3 := by omega
    rcases hk6 with rfl | rfl | rfl | rfl
    · by_cases hc : c = 2
      · subst hc
        clear h1 h2 h3
        go_wp2
        ((try rw [Exit.noGoto_ret]); go_ret2)
        exact ⟨by rw [HR.out]; rfl, bel_alloc hB _⟩
      · have t1 : ((2 : Int) != c) = true := by rw [bne_iff_ne]; omega
        have HC := Lib.hid hc
        clear hc h1 h2 h3
        go_wp2
        exact ⟨⟨1, by omega, rfl, .inr HC.out, .inl (by omega), .inl (by omega), bel_alloc hB _⟩, by decide⟩
    · by_cases hc : c = 3
      · subst hc
        clear h1 h2 h3
        cases last with
        | false =>
          go_wp2
          ((try rw [Exit.noGoto_ret]); go_ret2)
          exact ⟨by rw [HR.out]; rfl, bel_alloc hB _⟩
        | true =>
          by_cases h16 : 16 ≤ at_
          · have h16' : ¬ at_ < 16 := by omega
            go_wp2
            ((try rw [Exit.noGoto_ret]); go_ret2)
            exact ⟨by rw [HR.out]; simp [h16], bel_alloc hB _⟩
          · have h16' : at_ < 16 := by omega
            have HF := Lib.hid (show R = (0, 21) by rw [HR.out, if_neg (by decide), if_pos (by decide), if_neg (by omega)])
            clear h16
            go_wp2
            ((try rw [Exit.noGoto_ret]); go_ret2)
            exact ⟨by rw [HF.out]; rfl, bel_alloc hB _⟩
      · have t1 : ((3 : Int) != c) = true := by rw [bne_iff_ne]; omega
        have HC := Lib.hid (show (2 < 1 ∨ c ≠ 2) ∧ (2 < 2 ∨ c ≠ 3) ∧ (2 < 3 ∨ c ≠ 4) from by omega)
        clear hc h1 h2 h3
        go_wp2
        exact ⟨⟨2, by omega, rfl, HC.out.1, HC.out.2.1, HC.out.2.2, bel_alloc hB _⟩, by decide⟩
    · by_cases hc : c = 4
      · subst hc
        clear h1 h2 h3
        cases last with
        | false =>
          go_wp2
          ((try rw [Exit.noGoto_ret]); go_ret2)
          exact ⟨by rw [HR.out]; rfl, bel_alloc hB _⟩
        | true =>
          by_cases h16 : 16 ≤ at_
          · have h16' : ¬ at_ < 16 := by omega
            go_wp2
            ((try rw [Exit.noGoto_ret]); go_ret2)
            exact ⟨by rw [HR.out]; simp [h16], bel_alloc hB _⟩
          · have h16' : at_ < 16 := by omega
            have HF := Lib.hid (show R = (0, 21) by rw [HR.out, if_neg (by decide), if_pos (by decide), if_neg (by omega)])
            clear h16
            go_wp2
            ((try rw [Exit.noGoto_ret]); go_ret2)
            exact ⟨by rw [HF.out]; rfl, bel_alloc hB _⟩
      · have t1 : ((4 : Int) != c) = true := by rw [bne_iff_ne]; omega
        have HC := Lib.hid (show (3 < 1 ∨ c ≠ 2) ∧ (3 < 2 ∨ c ≠ 3) ∧ (3 < 3 ∨ c ≠ 4) from by omega)
        clear hc h1 h2 h3
        go_wp2
        exact ⟨⟨3, by omega, rfl, HC.out.1, HC.out.2.1, HC.out.2.2, bel_alloc hB _⟩, by decide⟩
    · have h1 : c ≠ 2 := by omega
      have h2 : c ≠ 3 := by omega
      have h3 : c ≠ 4 := by omega
      have HC := Lib.hid (show R = (0, 21) by rw [HR.out, if_neg h1, if_neg (by omega)])
      clear h1 h2 h3
      go_wp2
      ((try rw [Exit.noGoto_ret]); go_ret2)
      exact ⟨by rw [HC.out]; rfl, hB⟩

/-! ### Numbers one behind the other -/

/-- A record that was found: its number, its parts' slice, its place. -/
structure FoundC where
  seq : Int
  pa : Option Addr
  pl : Nat
  pc : Nat
  seg : Int
  pos : Int
def FoundC.cells (f : FoundC) : List Value := [.int .i64 f.seq, .slice f.pa f.pl f.pc, .int .i64 f.seg, .int .i64 f.pos]
def foundCells (l : List FoundC) : List Value := (l.map FoundC.cells).flatten

def seqsFrom : List FoundC → Int → Bool
  | [], _ => true
  | f :: r, n => f.seq == n && seqsFrom r (n + 1)
def seqsB (l : List FoundC) (from_ : Int) : Bool := seqsFrom l (if from_ = 0 then (l.head?.map FoundC.seq).getD 0 else from_)
theorem FoundC.len (f : FoundC) : f.cells.length = 4 := rfl

set_option maxRecDepth 100000 in
set_option maxHeartbeats 1000000 in
theorem seqs_any (l : List FoundC) (from_ : Int) (h0 : -1000000000000000000 < from_) (h1 : from_ < 1000000000000000000) (hs : ∀ f ∈ l, -1000000000000000000 < f.seq ∧ f.seq < 1000000000000000000) (a : Option Addr) (len cap : Nat) (hl : l.length = len) (hm : len < 1000000000)
    (w : World) (h : RowV w a len 4 (foundCells l)) : Gives Try.prog 25 #[.slice a len cap, .int .i64 from_] w (.bool (seqsB l from_)) := by
  obtain ⟨hlen, hml, hcs⟩ := h
  obtain ⟨F, hF⟩ : ∃ F : Int, F = (if from_ = 0 then (l.head?.map FoundC.seq).getD 0 else from_) := ⟨_, rfl⟩
  have hFb : -1000000000000000000 < F ∧ F < 1000000000000000000 := by
    rw [hF]; split
    · cases l with
      | nil => simp
      | cons f r => exact hs f (by simp)
    · exact ⟨h0, h1⟩
  unfold seqsB
  rw [← hF]
  have HF := Lib.hid hF
  clear hF
  unfold Gives
  go_enter Try.func25, Try.ntmps25
  go_wp2
  go_loopw [1, 9] (fun fr q wr => ∃ k : Nat, k ≤ len ∧ q = .int .i64 k ∧ fr = .int .i64 (if k = 0 then from_ else F) ∧ seqsFrom l F = seqsFrom (l.drop k) (F + k) ∧ Below w.heap.size w wr) (fun _ q _ => len - (intOf q).toNat)
  case atStart => exact ⟨0, by omega, rfl, rfl, by simp, Below.refl _ _⟩
  case round =>
    obtain ⟨k, hk, rfl, rfl, hsq, hB⟩ := hrel
    by_cases hlt : k < len
    · obtain ⟨b, off, rfl, hb, hc⟩ := hcs (by omega)
      have hkl : k < l.length := by omega
      have cell : ∀ i v, i < 4 → (l[k].cells)[i]? = some v → wr.cell? ⟨b, off + (k * 4 + i), none⟩ = some v := fun i v hi hv =>
        (hB.cell (p := ⟨b, off + (k * 4 + i), none⟩) hb).trans (RowV.at_ (len := len) (sz := 4) hc (by rw [foundCells, flat_at FoundC.cells 4 FoundC.len l k i hkl hi]; exact hv))
      have c0 := cell 0 _ (by decide) rfl
      have c1 := cell 1 _ (by decide) rfl
      have c2 := cell 2 _ (by decide) rfl
      have c3 := cell 3 _ (by decide) rfl
      simp only [Nat.add_zero, ← Nat.add_assoc] at c0 c1 c2 c3
      have HSQ := Lib.hid hsq
      have hsk := hs l[k] (List.getElem_mem _)
      have hdr := Lib.hid (List.drop_eq_getElem_cons hkl)
      have hk0 : k = 0 → F = (if from_ = 0 then l[k].seq else from_) := by
        rintro rfl
        rw [HF.out]
        cases l with
        | nil => simp at hkl
        | cons f r => rfl
      have HK := Lib.hid hk0
      clear cell hsq hs hk0
      generalize l[k] = f at *
      by_cases hz : k = 0
      · subst hz
        simp only [Nat.zero_mul, Nat.add_zero] at c0 c1 c2 c3
        by_cases hf0 : from_ = 0
        · subst hf0
          have HFk := Lib.hid (show F = f.seq from HK.out rfl)
          by_cases hq : f.seq = F
          · have t1 : (f.seq != f.seq) = false := by simp
            have HQ := Lib.hid hq
            clear hq
            go_wp2
            exact ⟨⟨1, by omega, rfl, by rw [if_neg (by decide), HFk.out], by rw [HSQ.out, hdr.out]; simp [seqsFrom, HQ.out], bel_alloc hB _⟩, by simp [intOf]; omega⟩
          · exact absurd HFk.out.symm hq
        · have hn : (from_ == 0) = false := by rw [beq_eq_false_iff_ne]; exact hf0
          have HFk := Lib.hid (show F = from_ by rw [HK.out rfl, if_neg hf0])
          clear hf0
          by_cases hq : f.seq = from_
          · have t1 : (f.seq != from_) = false := by simp [hq]
            have HQ := Lib.hid hq
            clear hq
            go_wp2
            exact ⟨⟨1, by omega, rfl, by rw [if_neg (by decide), HFk.out], by rw [HSQ.out, hdr.out]; simp [seqsFrom, HFk.out, HQ.out], bel_alloc hB _⟩, by simp [intOf]; omega⟩
          · have t1 : (f.seq != from_) = true := by simp [hq]
            have HQ := Lib.hid hq
            clear hq
            go_wp2
            go_ret
            exact ⟨by rw [HSQ.out, hdr.out]; simp [seqsFrom, HFk.out, HQ.out], bel_alloc hB _⟩
      · have hz1 : ((k : Int) == 0) = false := by rw [beq_eq_false_iff_ne]; omega
        by_cases hq : f.seq = F + k
        · have t1 : (f.seq != F + k) = false := by simp [hq]
          have HQ := Lib.hid hq
          clear hq
          go_wp2
          exact ⟨⟨k + 1, by omega, by go_num, by rw [if_neg hz, if_neg (Nat.succ_ne_zero k)], by rw [HSQ.out, hdr.out]; simp [seqsFrom, HQ.out]; rw [Int.add_assoc], bel_alloc hB _⟩, by simp [intOf]; omega⟩
        · have t1 : (f.seq != F + k) = true := by simp [hq]
          have HQ := Lib.hid hq
          clear hq
          go_wp2
          go_ret
          exact ⟨by rw [HSQ.out, hdr.out]; simp [seqsFrom, HQ.out], bel_alloc hB _⟩
    · obtain rfl : k = len := by omega
      rw [List.drop_of_length_le (by omega)] at hsq
      have HSQ := Lib.hid hsq
      clear hsq
      generalize (if k = 0 then from_ else F) = G at *
      go_wp2
      go_ret
      exact ⟨by rw [HSQ.out]; rfl, hB⟩

end Go.Proofs.Ytpdpdohkhiplpaa
