/- Plain data of the law WriterFull: writes on a disk with little room. -/
import Derived.Test.YtoieacmipejfeaaGreatDoorWrtI
namespace Go.Proofs.YtoieacmipejfeaaGreatDoor
open Go.RowKit Go.Shelf
set_option linter.unusedVariables false

/-- Behind i writes: the segments' bytes behind their heads are T. -/
def FU (R i : Nat) (M : WM) (D : PD) (S : List SegC) (T : List UInt8) : Prop := ∃ u g, St D R u (2 + 2 * i) g ∧ WI M g S ∧ S ≠ [] ∧ S.length ≤ i + 1 ∧ (∀ x ∈ S, x.1 ≤ (i : Int) + 1) ∧ M.lim = 2100 ∧ txtS S = T ∧ Fit D (10 + 12 * i)
theorem FU.segs {R i : Nat} {M : WM} {D : PD} {S : List SegC} {T : List UInt8} (h : FU R i M D S T) : M.segs = S.map (·.1) := by
  obtain ⟨u, g, -, hW, -⟩ := h; exact hW.segs
theorem FU.fit {R i : Nat} {M : WM} {D : PD} {S : List SegC} {T : List UInt8} (h : FU R i M D S T) : Fit D (10 + 12 * i) := by
  obtain ⟨u, g, -, -, -, -, -, -, -, hf⟩ := h; exact hf
theorem FU.used {R i : Nat} {M : WM} {D : PD} {S : List SegC} {T : List UInt8} (h : FU R i M D S T) : usedL D.L ≤ R := by
  obtain ⟨u, g, hS, -⟩ := h; exact hS.fits
theorem FU.len {R i : Nat} {M : WM} {D : PD} {S : List SegC} {T : List UInt8} (h : FU R i M D S T) : 0 < S.length ∧ S.length ≤ i + 1 := by
  obtain ⟨u, g, -, -, h0, hl, -⟩ := h
  exact ⟨List.length_pos_iff.2 h0, hl⟩
theorem FU.at {R i : Nat} {M : WM} {D : PD} {S : List SegC} {T : List UInt8} (h : FU R i M D S T) {x : SegC} (hx : x ∈ S) : askE D (nmW x.1) = 0 ∧ readB D (nmW x.1) = ⟨x.2.1.toArray⟩ ∧ 16 ≤ x.2.1.length ∧ x.2.1.length ≤ 2100 := by
  obtain ⟨u, g, hS, hW, -, -, -, hl, -⟩ := h
  refine ⟨hS.askY (hW.file x hx), hS.read (hW.file x hx), hW.ge hx, ?_⟩
  have := hW.le x hx
  rw [hl] at this
  exact this
theorem FU.pre {R i : Nat} {M : WM} {D : PD} {S : List SegC} {T : List UInt8} (h : FU R i M D S T) (hi : i ≤ 100) : (0 < M.segs.length ∧ M.segs.length ≤ 1000) ∧ (∀ z ∈ M.segs ++ [lastW M + 1], (Lit.int .i64 z).wf = true) ∧ (lastW M ≤ 99999999 ∧ 0 ≤ lastW M) ∧ 0 ≤ M.size ∧ M.size ≤ 1000000 := by
  obtain ⟨u, g, hS, hW, h0, hl, hx, hlim, -⟩ := h
  obtain ⟨A, x, rfl⟩ : ∃ A x, S = A ++ [x] := ⟨S.dropLast, S.getLast h0, (List.dropLast_concat_getLast h0).symm⟩
  have hxm : x ∈ A ++ [x] := by simp
  have h1 := hW.last
  have h2 := hW.bd x hxm
  have h3 := hx x hxm
  have h4 := hW.size x (by simp)
  have h5 := hW.le x hxm
  rw [hlim] at h5
  have h6 : M.segs.length = A.length + 1 := by rw [hW.segs]; simp
  have h7 : (A ++ [x]).length = A.length + 1 := by simp
  exact ⟨by omega, hW.wf (by omega), by omega, by omega, by omega⟩
theorem FU.write {R i : Nat} {M : WM} {D : PD} {S : List SegC} {T : List UInt8} (h : FU R i M D S T) (hi : i < 100) (b : ByteArray) (hb : 1 ≤ b.size ∧ b.size ≤ 2084) :
    ∃ M' D' S' pa pb e, wrtR M D b = (M', D', (pa, pb), e) ∧ ((e = 0 ∧ FU R (i + 1) M' D' S' (T ++ b.data.toList)) ∨ (e = 17 ∧ FU R (i + 1) M' D' S' T)) := by
  obtain ⟨u, g, hS, hW, h0, hl, hx, hlim, hT, hf⟩ := h
  obtain ⟨A, x, rfl⟩ : ∃ A x, S = A ++ [x] := ⟨S.dropLast, S.getLast h0, (List.dropLast_concat_getLast h0).symm⟩
  have hxm : x ∈ A ++ [x] := by simp
  have hlen : (A ++ [x]).length = A.length + 1 := by simp
  have hx1 := hx x hxm
  have hfw := fit_wrt hf hS.nm M b
  have hge := hW.ge hxm
  rw [txt_app, txt_one] at hT
  rcases hW.write hS hb (by omega) (by omega) (by omega) with ⟨h1, D', h2, h3, h4⟩ | ⟨h1, D', g', h2, h3, h4, h5⟩ | ⟨h1, M', D', g', S', pl, h2, h3, h4, h5, h6, h7, h8, h9⟩
  · rw [h2] at hfw
    refine ⟨_, _, _, _, _, _, h2, .inl ⟨rfl, _, _, h3.up (Nat.le_refl _) (by omega), h4, by simp, by simp at hl ⊢; omega, ?_, hlim, ?_, hfw.up (by omega)⟩⟩
    · intro y hy
      rcases List.mem_append.1 hy with hy | hy
      · have := hx y (by simp [hy]); omega
      · rw [List.mem_singleton.1 hy]; show x.1 ≤ _; omega
    · rw [txt_app, txt_one, ← hT, List.append_assoc]
      congr 1
      exact List.drop_append_of_le_length hge
  · rw [h2] at hfw
    refine ⟨_, _, _, _, _, _, h2, .inl ⟨rfl, _, _, h4.up (Nat.le_refl _) (by omega), h5, by simp, by simp at hl ⊢; omega, ?_, hlim, ?_, hfw.up (by omega)⟩⟩
    · intro y hy
      rcases List.mem_append.1 hy with hy | hy
      · rcases List.mem_append.1 hy with hy | hy
        · have := hx y (by simp [hy]); omega
        · rw [List.mem_singleton.1 hy]; show x.1 ≤ _; omega
      · rw [List.mem_singleton.1 hy]; show x.1 + 1 ≤ _; omega
    · rw [txt_app, txt_one, txt_app, txt_one, ← hT]
      congr 1
  · rw [h2] at hfw
    refine ⟨_, _, _, _, _, _, h2, .inr ⟨rfl, _, _, h3.up (Nat.le_refl _) (by omega), h4, h8, by omega, ?_, h9.trans hlim, ?_, hfw.up (by omega)⟩⟩
    · intro y hy
      have := h7 y hy; omega
    · rw [h5, txt_app, txt_one]; exact hT
theorem FU.make (R : Nat) (hR : 200 ≤ R ∧ R ≤ 1000000) : ∃ D, makR ⟨[], R, 0, false, 0⟩ 2100 = (⟨2100, [1], 16⟩, D, 0) ∧ FU R 0 ⟨2100, [1], 16⟩ D [(1, (hdW 1).data.toList, 16)] [] := by
  have hl : limW 2100 = 2100 := by decide
  rcases (st_new R).make (by omega) 2100 with ⟨D1, e1, h1, hW1⟩ | ⟨M', D', g', e1, hr, -⟩
  · have hf := fit_beg (fit_new R (by omega)) (show Nm (⟨[], R, 0, false, 0⟩ : PD).L from List.Pairwise.nil) ⟨limW 2100, [], 0⟩ 1
    rw [show begR ⟨limW 2100, [], 0⟩ ⟨[], R, 0, false, 0⟩ 1 = makR ⟨[], R, 0, false, 0⟩ 2100 from rfl, e1] at hf
    rw [hl] at e1 hW1
    refine ⟨D1, e1, _, _, h1, hW1, by simp, by simp, ?_, rfl, ?_, hf⟩
    · intro x hx
      rw [List.mem_singleton.1 hx]; show (1 : Int) ≤ _; omega
    · rw [txt_one]
      exact List.drop_eq_nil_of_le (by rw [hdW_len]; exact Nat.le_refl _)
  · omega

end Go.Proofs.YtoieacmipejfeaaGreatDoor
