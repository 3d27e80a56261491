/- WrtH, ShtK, ShtN, WrtI, WrtJ, WrtQ: in one text. -/
import Derived.Test.YtoieacmipejfeaaGreatDoorWrt
import Derived.Test.YtoieacmipejfeaaGreatDoorSht
/- Disks as plain data: a segment's file is laid, a sheet is saved, a segment is begun. -/
namespace Go.Proofs.YtoieacmipejfeaaGreatDoor
open Go.RowKit Go.Shelf
set_option linter.unusedVariables false

theorem St.lay {D : PD} {r u k : Nat} {g : ByteArray → Option PF} (h : St D r u k g) (hk : k < 1000) (id : Int) :
    ((layR D id).2 = 0 ∧ St (layR D id).1 r (u + 16) (k + 1) (upd g (nmW id) (some ⟨nmW id, (hdW id).data.toList, 16⟩))) ∨ ((layR D id).2 = 17 ∧ r < u + 16 ∧ St (layR D id).1 r u (k + 1) (upd g (nmW id) (some ⟨nmW id, [], 0⟩))) := by
  obtain ⟨h1, hc⟩ := h.remove (nmW id)
  obtain ⟨c1, h2⟩ := h1.create (upd_self ..) hk
  rw [upd_upd] at h2
  have hz : (hdW id).size = 16 := headS_size _
  rcases h2.append (upd_self ..) (hdW id) with ⟨a1, h3⟩ | ⟨a1, a2, a3⟩
  · have h4 := h3.sync (upd_self ..)
    have a4 := h3.askY (upd_self ..)
    rw [upd_upd, upd_upd, hz] at h4
    have e : layR D id = (syncD (appendD (createD (removeD D (nmW id)) (nmW id)) (nmW id) (hdW id)) (nmW id), 0) := by
      unfold layR
      simp only [if_pos hc, c1, a1, a4, if_true]
    rw [e]
    refine .inl ⟨rfl, ?_⟩
    have e9 : keepP (appP (hdW id) ⟨nmW id, [], 0⟩) = ⟨nmW id, (hdW id).data.toList, 16⟩ := by
      unfold keepP appP
      simp only [List.nil_append]
      congr 1
    rw [e9] at h4; exact h4
  · have e : layR D id = (createD (removeD D (nmW id)) (nmW id), 17) := by
      unfold layR
      simp only [if_pos hc, c1, a1, a2, if_true, if_neg (show ¬ (17 : Int) = 0 by decide)]
    rw [e]
    exact .inr ⟨rfl, by omega, h2⟩
theorem St.save {D : PD} {r u k : Nat} {g : ByteArray → Option PF} (h : St D r u k g) (hk : k < 1000) (b : ByteArray) :
    ((saB D b).2 = 0 ∧ St (saB D b).1 r (u + b.size) (k + 1) (upd (upd g ⟨#[115, 104, 101, 101, 116, 46, 110, 101, 119]⟩ none) ⟨#[115, 104, 101, 101, 116]⟩ (some ⟨⟨#[115, 104, 101, 101, 116]⟩, b.data.toList, b.size⟩))) ∨ ((saB D b).2 = 17 ∧ r < u + b.size ∧ St (saB D b).1 r u (k + 1) (upd g ⟨#[115, 104, 101, 101, 116, 46, 110, 101, 119]⟩ (some ⟨⟨#[115, 104, 101, 101, 116, 46, 110, 101, 119]⟩, [], 0⟩))) := by
  unfold saB sa5 sa4 sa3 sa2 sa1
  generalize hsn : (⟨#[115, 104, 101, 101, 116, 46, 110, 101, 119]⟩ : ByteArray) = sn
  generalize hss : (⟨#[115, 104, 101, 101, 116]⟩ : ByteArray) = s
  obtain ⟨h1, hc⟩ := h.remove sn
  have hc8 : ¬ askE D sn = 18 := by omega
  obtain ⟨c1, h2⟩ := h1.create (upd_self ..) hk
  rw [upd_upd] at h2
  rcases h2.append (upd_self ..) b with ⟨a1, h3⟩ | ⟨a1, a2, a3⟩
  · have h4 := h3.sync (upd_self ..)
    have a4 := h3.askY (upd_self ..)
    have a5 := h4.askY (upd_self ..)
    have h5 := h4.rename (upd_self ..) s
    rw [upd_upd, upd_upd, upd_upd] at h5
    rw [if_neg hc8, if_neg (by simp [c1]), if_neg (by simp [a1]), if_neg (by simp [a4])]
    have e9 : (⟨s, (keepP (appP b ⟨sn, [], 0⟩)).b, (keepP (appP b ⟨sn, [], 0⟩)).b.length⟩ : PF) = ⟨s, b.data.toList, b.size⟩ := by
      unfold keepP appP
      simp only [List.nil_append]; rfl
    rw [e9] at h5
    exact .inl ⟨a5, h5⟩
  · rw [if_neg hc8, if_neg (by simp [c1]), if_pos (by simp [a1]), a1, a2]
    exact .inr ⟨rfl, a3, h2⟩
theorem nmW_list (id : Int) : (nmW id).data.toList = nameL (heldN id) := by unfold nmW; simp
theorem nmW_ne1 (id : Int) : nmW id ≠ ⟨#[115, 104, 101, 101, 116, 46, 110, 101, 119]⟩ := fun e => by
  have := congrArg ByteArray.size e
  rw [show (nmW id).size = (nameL (heldN id)).length from rfl, nameL_len] at this
  exact absurd this (by decide)
theorem nmW_ne2 (id : Int) : nmW id ≠ ⟨#[115, 104, 101, 101, 116]⟩ := fun e => by
  have := congrArg ByteArray.size e
  rw [show (nmW id).size = (nameL (heldN id)).length from rfl, nameL_len] at this
  exact absurd this (by decide)
theorem heldN_id {i : Int} (h : 1 ≤ i ∧ i ≤ 99999999) : heldN i = i.toNat := by unfold heldN; omega
theorem nmW_inj {i j : Int} (hi : 1 ≤ i ∧ i ≤ 99999999) (hj : 1 ≤ j ∧ j ≤ 99999999) (h : nmW i = nmW j) : i = j := by
  have h2 : nameL (heldN i) = nameL (heldN j) := by rw [← nmW_list, h, nmW_list]
  rw [heldN_id hi, heldN_id hj] at h2
  have := nameL_inj (by omega) (by omega) h2
  omega
/-- What is looked up behind a segment was begun. -/
def begG (g : ByteArray → Option PF) (id : Int) (l : List Int) : ByteArray → Option PF := upd (upd (upd g (nmW id) (some ⟨nmW id, (hdW id).data.toList, 16⟩)) ⟨#[115, 104, 101, 101, 116, 46, 110, 101, 119]⟩ none) ⟨#[115, 104, 101, 101, 116]⟩ (some ⟨⟨#[115, 104, 101, 101, 116]⟩, (shY l).data.toList, (shY l).size⟩)
theorem St.beg {D : PD} {r u k : Nat} {g : ByteArray → Option PF} (h : St D r u k g) (hk : k + 1 < 1000) (M : WM) (id : Int) (hs : shB (M.segs ++ [id]) = true) :
    (∃ D', begR M D id = ({ M with segs := M.segs ++ [id], size := 16 }, D', 0) ∧ St D' r (u + 16 + (shY (M.segs ++ [id])).size) (k + 2) (begG g id (M.segs ++ [id]))) ∨ (∃ D' g', begR M D id = (M, D', 17) ∧ r < u + 16 + (shY (M.segs ++ [id])).size ∧ (∀ t, t ≠ nmW id → t ≠ ⟨#[115, 104, 101, 101, 116, 46, 110, 101, 119]⟩ → g' t = g t) ∧ St D' r (u + 16) (k + 2) g') := by
  have hy := shY_size (M.segs ++ [id])
  rcases h.lay (by omega) id with ⟨e1, h1⟩ | ⟨e1, hr, h1⟩
  · have e2 : saR (layR D id).1 (M.segs ++ [id]) = saB (layR D id).1 (shY (M.segs ++ [id])) := by unfold saR; rw [if_pos hs]
    rcases h1.save (by omega) (shY (M.segs ++ [id])) with ⟨e3, h3⟩ | ⟨e3, hr, h3⟩
    · refine .inl ⟨_, ?_, h3.up (by omega) (by omega)⟩
      unfold begR
      simp only [e1, if_true, e2, e3]
    · have h4 := (h3.remove (nmW id)).1
      refine .inr ⟨_, _, ?_, by omega, ?_, h4.up (by omega) (by omega)⟩
      · unfold begR
        simp only [e1, if_true, e2, e3, if_neg (show ¬ (17 : Int) = 0 by decide)]
      · intro t h1 h2
        rw [upd_other _ h1, upd_other _ h2, upd_other _ h1]
  · have h4 := (h1.remove (nmW id)).1
    refine .inr ⟨_, _, ?_, by omega, ?_, h4.up (by omega) (by omega)⟩
    · unfold begR
      simp only [e1, if_neg (show ¬ (17 : Int) = 0 by decide)]
    · intro t h1 h2
      rw [upd_other _ h1, upd_other _ h1]

end Go.Proofs.YtoieacmipejfeaaGreatDoor

/- What was written as a sheet is read as it (plain lists). -/
namespace Go.Proofs.YtoieacmipejfeaaGreatDoor
set_option linter.unusedVariables false

theorem nums_flat : ∀ (l : List Int) (t : List UInt8), (∀ x ∈ l, 0 ≤ x ∧ x < 9223372036854775808) → nums l.length ((l.flatMap fun x => sevL x.toNat) ++ t) = l.map Int.toNat
  | [], t, _ => rfl
  | x :: r, t, h => by
    have hx := h x (List.mem_cons_self ..)
    have hg : getL (sevL x.toNat ++ ((r.flatMap fun x => sevL x.toNat) ++ t)) = (x.toNat, (sevL x.toNat).length, 0) := getL_sevL _ _ (by omega)
    show (if (getL _).2.2 = 0 then _ else _) = _
    rw [List.flatMap_cons, List.append_assoc, hg]
    rw [if_pos rfl, List.drop_left, nums_flat r t (fun y hy => h y (List.mem_cons_of_mem _ hy))]
    rfl
theorem shB_bd {l : List Int} (h : shB l = true) : l.length ≤ 200 ∧ ∀ x ∈ l, 0 < x ∧ x ≤ 99999999 := by
  unfold shB at h
  simp only [Bool.and_eq_true, decide_eq_true_eq] at h
  exact ⟨h.1.2, isA_bd h.2⟩
theorem shY_list {l : List Int} (h : shB l = true) : (shY l).data.toList = shS l := by unfold shY; rw [if_pos h]
theorem shS_len (l : List Int) : (shS l).length = 4 + (shL l).length := by
  unfold shS
  rw [List.length_append]; rfl
theorem rd_app {l : List Int} (h : shB l = true) (t : ByteArray) : rdHead (shY l ++ t) = true ∧ rdL (shY l ++ t) = l := by
  obtain ⟨h200, hbd⟩ := shB_bd h
  have hd : (shY l ++ t).data.toList = shS l ++ t.data.toList := by rw [ByteArray.data_append, Array.toList_append, shY_list h]
  have h4 : (shS l ++ t.data.toList).drop 4 = sevL l.length ++ ((l.flatMap fun x => sevL x.toNat) ++ t.data.toList) := by
    unfold shS shL
    rw [List.append_assoc, List.append_assoc]
    rfl
  have hg : getL ((shY l ++ t).data.toList.drop 4) = (l.length, (sevL l.length).length, 0) := by
    rw [hd, h4]; exact getL_sevL _ _ (by omega)
  have hsz : 4 ≤ (shY l ++ t).size := by
    have e : (shY l ++ t).data.toList.length = (shY l ++ t).size := by rw [Array.length_toList]; rfl
    rw [← e, hd, List.length_append, shS_len]; omega
  constructor
  · unfold rdHead rdG
    rw [hg, decide_eq_true hsz, decide_eq_true h200]; rfl
  · unfold rdL rdG
    rw [hg]
    dsimp only
    rw [hd, ← List.drop_drop, h4, List.drop_left, nums_flat l _ (fun x hx => by have := hbd x hx; omega), List.map_map]
    conv => rhs; rw [← List.map_id l]
    apply List.map_congr_left
    intro x hx
    have := hbd x hx
    show ((x.toNat : Nat) : Int) = x
    omega
theorem rd_back {l : List Int} (h : shB l = true) : rdOk (shY l) = true ∧ rdL (shY l) = l := by
  have e : shY l ++ ⟨#[]⟩ = shY l := by apply ByteArray.ext; rw [ByteArray.data_append]; simp
  have := rd_app h ⟨#[]⟩
  rw [e] at this
  refine ⟨?_, this.2⟩
  unfold rdOk
  rw [this.1, this.2, h, decide_eq_true rfl]; rfl
theorem rd_more {l : List Int} (h : shB l = true) (t : ByteArray) (ht : 0 < t.size) : rdOk (shY l ++ t) = false := by
  have := rd_app h t
  unfold rdOk
  rw [this.1, this.2, h, decide_eq_false]
  · rfl
  · intro e
    have := congrArg ByteArray.size e
    rw [ByteArray.size_append] at this
    omega

end Go.Proofs.YtoieacmipejfeaaGreatDoor

/- Rising numbers as plain data: a sheet; with two swapped it is none. -/
namespace Go.Proofs.YtoieacmipejfeaaGreatDoor
open Go.RowKit Go.Shelf
set_option linter.unusedVariables false

/-- n numbers from a on, each two more. -/
def rng (a : Int) : Nat → List Int
  | 0 => []
  | n + 1 => rng a n ++ [a + 2 * n]
theorem rng_len (a : Int) : ∀ n, (rng a n).length = n
  | 0 => rfl
  | n + 1 => by show (rng a n ++ [_]).length = _; rw [List.length_append, rng_len a n]; rfl
theorem rng_mem (a : Int) : ∀ n, ∀ x ∈ rng a n, a ≤ x ∧ x < a + 2 * n
  | 0, x, h => by cases h
  | n + 1, x, h => by
    rcases List.mem_append.1 h with h | h
    · have := rng_mem a n x h; omega
    · rw [List.mem_singleton.1 h]; omega
theorem isA_app : ∀ (l : List Int) (b x : Int), isA b l = true → b < x → (∀ y ∈ l, y < x) → x ≤ 99999999 → isA b (l ++ [x]) = true
  | [], b, x, _, h, _, hx => by simp [isA, h, hx]
  | y :: r, b, x, h, hb, hm, hx => by
    simp only [isA, Bool.and_eq_true, decide_eq_true_eq] at h
    show (decide (b < y) && decide (y ≤ 99999999) && isA y (r ++ [x])) = true
    rw [isA_app r y x h.2 (hm y List.mem_cons_self) (fun z hz => hm z (List.mem_cons_of_mem _ hz)) hx]
    simp [h.1.1, h.1.2]
theorem rng_isA {a b : Int} (hb : b < a) : ∀ n : Nat, a + 2 * n ≤ 99999999 → isA b (rng a n) = true
  | 0, _ => rfl
  | n + 1, h => by
    refine isA_app _ _ _ (rng_isA hb n (by omega)) (by omega) (fun y hy => ?_) (by omega)
    have := rng_mem a n y hy; omega
theorem rng_shB {a : Int} (ha : 0 < a) {n : Nat} (h1 : 1 ≤ n) (h : n ≤ 200) (hb : a + 2 * n ≤ 99999999) : shB (rng a n) = true := by
  unfold shB
  rw [rng_isA ha n hb, rng_len]
  simp [h1, h]
theorem rng_big (a : Int) {n : Nat} (h : 200 < n) : shB (rng a n) = false := by
  unfold shB
  rw [rng_len, show decide (n ≤ 200) = false by simp; omega]
  simp
theorem rng_get (a : Int) : ∀ (n i : Nat) (h : i < (rng a n).length), (rng a n)[i] = a + 2 * i
  | 0, i, h => by cases h
  | n + 1, i, h => by
    have hl := rng_len a n
    have h' : i < n + 1 := by rw [rng_len] at h; exact h
    by_cases e : i < n
    · rw [show (rng a (n + 1))[i] = (rng a n)[i]'(by omega) from List.getElem_append_left (by omega)]
      exact rng_get a n i _
    · obtain rfl : i = n := by omega
      rw [show (rng a (i + 1))[i] = [a + 2 * (i : Int)][i - (rng a i).length]'(by simp [hl]) from List.getElem_append_right (by omega)]
      simp [hl]
/-- Where two neighbours fall it is no sheet. -/
theorem isA_falls : ∀ (l : List Int) (b : Int) (i : Nat) (h : i + 1 < l.length), l[i + 1] ≤ l[i] → isA b l = false
  | [], _, _, h, _ => by cases h
  | [x], _, i, h, _ => by simp at h
  | x :: y :: r, b, 0, _, hf => by
    have hf' : y ≤ x := hf
    have : isA x (y :: r) = false := by simp [isA]; omega
    show (decide (b < x) && decide (x ≤ 99999999) && isA x (y :: r)) = false
    rw [this, Bool.and_false]
  | x :: y :: r, b, i + 1, h, hf => by
    show (decide (b < x) && decide (x ≤ 99999999) && isA x (y :: r)) = false
    rw [isA_falls (y :: r) x i (by simp at h ⊢; omega) hf, Bool.and_false]
theorem swap_shB (l : List Int) (i : Nat) (h : i + 1 < l.length) (hr : l[i] < l[i + 1]) : shB ((l.set i l[i + 1]).set (i + 1) l[i]) = false := by
  unfold shB
  rw [isA_falls _ 0 i (by simp; exact h) (by simp; omega), Bool.and_false]

end Go.Proofs.YtoieacmipejfeaaGreatDoor

/- Disks as plain data: bytes are written. -/
namespace Go.Proofs.YtoieacmipejfeaaGreatDoor
open Go.RowKit Go.Shelf
set_option linter.unusedVariables false

/-- A segment: its number, its bytes, how many are kept. -/
abbrev SegC := Int × List UInt8 × Nat
/-- The writer M over a disk of which g is looked up: its segments are S. -/
structure WI (M : WM) (g : ByteArray → Option PF) (S : List SegC) : Prop where
  segs : M.segs = S.map (·.1)
  sh : shB M.segs = true
  lim : 2100 ≤ M.lim ∧ M.lim ≤ 100000
  file : ∀ x ∈ S, g (nmW x.1) = some ⟨nmW x.1, x.2.1, x.2.2⟩
  sheet : g ⟨#[115, 104, 101, 101, 116]⟩ = some ⟨⟨#[115, 104, 101, 101, 116]⟩, (shY M.segs).data.toList, (shY M.segs).size⟩
  size : ∀ x, S.getLast? = some x → M.size = x.2.1.length
  head : ∀ x ∈ S, ∃ t, x.2.1 = (hdW x.1).data.toList ++ t
  le : ∀ x ∈ S, x.2.1.length ≤ M.lim.toNat
  kept : ∀ x ∈ S, 16 ≤ x.2.2 ∧ x.2.2 ≤ x.2.1.length
  all : ∀ A x, S = A ++ [x] → ∀ y ∈ A, y.2.2 = y.2.1.length
theorem isA_last {a : Int} : ∀ {A : List Int} {b : Int}, isA b (A ++ [a]) = true → ∀ y ∈ A, y < a
  | [], _, _, _, h => by cases h
  | z :: r, b, h, y, hy => by
    have h2 : isA z (r ++ [a]) = true := by
      have : (decide (b < z) && decide (z ≤ 99999999) && isA z (r ++ [a])) = true := h
      simp only [Bool.and_eq_true] at this; exact this.2
    rcases List.mem_cons.1 hy with rfl | hy
    · exact (isA_bd h2 a (by simp)).1
    · exact isA_last h2 y hy
theorem shB_snoc {l : List Int} {a : Int} (h : shB (l ++ [a]) = true) (hl : l.length + 1 < 200) (ha : a < 99999999) : shB ((l ++ [a]) ++ [a + 1]) = true := by
  unfold shB at h ⊢
  simp only [Bool.and_eq_true, decide_eq_true_eq] at h ⊢
  refine ⟨⟨by simp, by simp; omega⟩, isA_app _ _ _ h.2 (by have := (isA_bd h.2 a (by simp)).1; omega) (fun y hy => ?_) (by omega)⟩
  rcases List.mem_append.1 hy with hy | hy
  · have := isA_last h.2 y hy; omega
  · rw [List.mem_singleton.1 hy]; omega
def txtS (S : List SegC) : List UInt8 := S.flatMap fun x => x.2.1.drop 16
theorem txt_app (A B : List SegC) : txtS (A ++ B) = txtS A ++ txtS B := List.flatMap_append ..
theorem txt_one (x : SegC) : txtS [x] = x.2.1.drop 16 := by unfold txtS; simp
theorem WI.bd {M : WM} {g : ByteArray → Option PF} {S : List SegC} (h : WI M g S) : ∀ x ∈ S, 1 ≤ x.1 ∧ x.1 ≤ 99999999 := fun x hx => by
  have h1 := (shB_bd h.sh).2 x.1 (by rw [h.segs]; exact List.mem_map_of_mem hx)
  omega
theorem WI.lt {M : WM} {g : ByteArray → Option PF} {A : List SegC} {x : SegC} (h : WI M g (A ++ [x])) : ∀ y ∈ A, y.1 < x.1 := fun y hy => by
  have h1 := h.sh
  rw [h.segs, List.map_append] at h1
  unfold shB at h1
  simp only [Bool.and_eq_true] at h1
  exact isA_last h1.2 y.1 (List.mem_map_of_mem hy)
theorem WI.last {M : WM} {g : ByteArray → Option PF} {A : List SegC} {x : SegC} (h : WI M g (A ++ [x])) : lastW M = x.1 := by
  unfold lastW; rw [h.segs]; simp
theorem hdW_len (id : Int) : (hdW id).data.toList.length = 16 := headS_size (heldN id)
theorem WI.ge {M : WM} {g : ByteArray → Option PF} {S : List SegC} (h : WI M g S) {x : SegC} (hx : x ∈ S) : 16 ≤ x.2.1.length := by
  obtain ⟨t, e⟩ := h.head x hx
  rw [e, List.length_append, hdW_len]; omega
/-- The last file's bytes are others, as are what is looked up under other names. -/
theorem WI.set {M : WM} {g g' : ByteArray → Option PF} {A : List SegC} {x : SegC} (h : WI M g (A ++ [x])) (b : List UInt8) (k : Nat) (hg : ∀ t, t ≠ nmW x.1 → t ≠ ⟨#[115, 104, 101, 101, 116, 46, 110, 101, 119]⟩ → (∀ j : Int, x.1 < j → j ≤ 99999999 → t ≠ nmW j) → g' t = g t) (hx : g' (nmW x.1) = some ⟨nmW x.1, b, k⟩) (hb : ∃ t, b = x.2.1 ++ t) (hl : (b.length : Int) ≤ M.lim) (hk : 16 ≤ k ∧ k ≤ b.length) : WI { M with size := b.length } g' (A ++ [(x.1, b, k)]) := by
  have hxm : x ∈ A ++ [x] := by simp
  have hbx := h.bd x hxm
  refine ⟨by rw [h.segs]; simp, h.sh, h.lim, ?_, ?_, ?_, ?_, ?_, ?_, ?_⟩
  · intro y hy
    rcases List.mem_append.1 hy with hy | hy
    · have h1 := h.lt y hy
      have h2 := h.bd y (by simp [hy])
      rw [hg _ (fun e => by have := nmW_inj h2 hbx e; omega) (nmW_ne1 _) (fun j h3 h4 e => by have := nmW_inj h2 (by omega) e; omega)]
      exact h.file y (by simp [hy])
    · rw [List.mem_singleton.1 hy]; exact hx
  · rw [hg _ (fun e => nmW_ne2 _ e.symm) (by decide) (fun j _ _ e => nmW_ne2 _ e.symm)]; exact h.sheet
  · intro y hy
    simp at hy; rw [← hy]
  · intro y hy
    rcases List.mem_append.1 hy with hy | hy
    · exact h.head y (by simp [hy])
    · rw [List.mem_singleton.1 hy]
      obtain ⟨t, e⟩ := hb
      obtain ⟨t2, e2⟩ := h.head x hxm
      exact ⟨t2 ++ t, by show b = _; rw [e, e2, List.append_assoc]⟩
  · intro y hy
    rcases List.mem_append.1 hy with hy | hy
    · exact h.le y (by simp [hy])
    · rw [List.mem_singleton.1 hy]; show b.length ≤ M.lim.toNat; omega
  · intro y hy
    rcases List.mem_append.1 hy with hy | hy
    · exact h.kept y (by simp [hy])
    · rw [List.mem_singleton.1 hy]; exact hk
  · intro A' x' e
    have := List.append_inj_left' e rfl
    subst this
    exact h.all A x rfl
/-- A segment more. -/
theorem WI.snoc {M : WM} {g : ByteArray → Option PF} {A : List SegC} {x : SegC} (h : WI M g (A ++ [x])) (hn : A.length + 1 < 200) (hl : x.1 < 99999999) (hk : x.2.2 = x.2.1.length) : WI { M with segs := M.segs ++ [x.1 + 1], size := 16 } (begG g (x.1 + 1) (M.segs ++ [x.1 + 1])) ((A ++ [x]) ++ [(x.1 + 1, (hdW (x.1 + 1)).data.toList, 16)]) := by
  have hxm : x ∈ A ++ [x] := by simp
  have hbx := h.bd x hxm
  have hle : ∀ y ∈ A ++ [x], y.1 ≤ x.1 := fun y hy => by
    rcases List.mem_append.1 hy with hy | hy
    · have := h.lt y hy; omega
    · rw [List.mem_singleton.1 hy]; exact Int.le_refl _
  refine ⟨by rw [h.segs]; simp, ?_, h.lim, ?_, ?_, ?_, ?_, ?_, ?_, ?_⟩
  · have h1 := h.sh
    rw [h.segs, List.map_append] at h1 ⊢
    exact shB_snoc h1 (by rw [List.length_map]; exact hn) hl
  · intro y hy
    rcases List.mem_append.1 hy with hy | hy
    · have h1 := hle y hy
      have h2 := h.bd y hy
      unfold begG
      rw [upd_other _ (nmW_ne2 _), upd_other _ (nmW_ne1 _), upd_other _ (fun e => by have := nmW_inj h2 (by omega) e; omega)]
      exact h.file y hy
    · rw [List.mem_singleton.1 hy]
      unfold begG
      rw [upd_other _ (nmW_ne2 _), upd_other _ (nmW_ne1 _), upd_self]
  · unfold begG; rw [upd_self]
  · intro y hy
    simp at hy; rw [← hy]; show (16 : Int) = ((hdW (x.1 + 1)).data.toList.length : Int); rw [hdW_len]; rfl
  · intro y hy
    rcases List.mem_append.1 hy with hy | hy
    · exact h.head y hy
    · rw [List.mem_singleton.1 hy]; exact ⟨[], by simp⟩
  · intro y hy
    rcases List.mem_append.1 hy with hy | hy
    · exact h.le y hy
    · rw [List.mem_singleton.1 hy]; show (hdW (x.1 + 1)).data.toList.length ≤ M.lim.toNat; rw [hdW_len]; have := h.lim; omega
  · intro y hy
    rcases List.mem_append.1 hy with hy | hy
    · exact h.kept y hy
    · rw [List.mem_singleton.1 hy]; show 16 ≤ 16 ∧ 16 ≤ (hdW (x.1 + 1)).data.toList.length; rw [hdW_len]; omega
  · intro A' x' e y hy
    have e2 := List.append_inj_left' e rfl
    rw [← e2] at hy
    rcases List.mem_append.1 hy with hy | hy
    · exact h.all A x rfl y hy
    · rw [List.mem_singleton.1 hy]; exact hk
def rollB (M : WM) (n : Nat) : Bool := decide (M.lim < M.size + n) && decide (16 < M.size)
/-- Bytes are written. -/
theorem WI.write {D : PD} {r u k : Nat} {g : ByteArray → Option PF} {M : WM} {A : List SegC} {x : SegC} {b : ByteArray} (hS : St D r u k g) (h : WI M g (A ++ [x])) (hb : 1 ≤ b.size ∧ b.size ≤ 2084) (hn : A.length + 1 < 200) (hl : x.1 < 99999999) (hk : k + 1 < 1000) :
    (rollB M b.size = false ∧ ∃ D', wrtR M D b = ({ M with size := M.size + b.size }, D', (x.1, M.size), 0) ∧ St D' r (u + 4100) (k + 2) (upd g (nmW x.1) (some ⟨nmW x.1, x.2.1 ++ b.data.toList, x.2.2⟩)) ∧ WI { M with size := M.size + b.size } (upd g (nmW x.1) (some ⟨nmW x.1, x.2.1 ++ b.data.toList, x.2.2⟩)) (A ++ [(x.1, x.2.1 ++ b.data.toList, x.2.2)])) ∨
    (rollB M b.size = true ∧ ∃ D' g', wrtR M D b = ({ M with segs := M.segs ++ [x.1 + 1], size := 16 + b.size }, D', (x.1 + 1, 16), 0) ∧ g' = upd (begG (upd g (nmW x.1) (some ⟨nmW x.1, x.2.1, x.2.1.length⟩)) (x.1 + 1) (M.segs ++ [x.1 + 1])) (nmW (x.1 + 1)) (some ⟨nmW (x.1 + 1), (hdW (x.1 + 1)).data.toList ++ b.data.toList, 16⟩) ∧ St D' r (u + 4100) (k + 2) g' ∧ WI { M with segs := M.segs ++ [x.1 + 1], size := 16 + b.size } g' ((A ++ [(x.1, x.2.1, x.2.1.length)]) ++ [(x.1 + 1, (hdW (x.1 + 1)).data.toList ++ b.data.toList, 16)])) ∨
    (r < u + 4100 ∧ ∃ M' D' g' S' pl, wrtR M D b = (M', D', pl, 17) ∧ St D' r (u + 4100) (k + 2) g' ∧ WI M' g' S' ∧ txtS S' = txtS (A ++ [x]) ∧ S'.length ≤ A.length + 2 ∧ (∀ y ∈ S', y.1 ≤ x.1 + 1) ∧ S' ≠ [] ∧ M'.lim = M.lim) := by
  have hxm : x ∈ A ++ [x] := by simp
  have hsz := h.size x (by simp)
  have hbx := h.bd x hxm
  have hlw := h.last
  have hlm := h.lim
  have hle := h.le x hxm
  have hge := h.ge hxm
  have hbl : b.data.toList.length = b.size := rfl
  have hb0 : ¬ (b.size = 0 ∨ 2084 < b.size) := by omega
  have hkx := h.kept x hxm
  by_cases hr : M.lim < M.size + b.size ∧ 16 < M.size
  · have hrb : rollB M b.size = true := by unfold rollB; simp [hr.1, hr.2]
    have h1 := hS.sync (h.file x hxm)
    rw [show keepP ⟨nmW x.1, x.2.1, x.2.2⟩ = ⟨nmW x.1, x.2.1, x.2.1.length⟩ from rfl] at h1
    have a0 := hS.askY (h.file x hxm)
    have hW1 := h.set (g' := upd g (nmW x.1) (some ⟨nmW x.1, x.2.1, x.2.1.length⟩)) x.2.1 x.2.1.length (fun t h1 _ _ => upd_other _ h1) (upd_self ..) ⟨[], by simp⟩ (by omega) (by omega)
    rw [show ({ M with size := x.2.1.length } : WM) = M by rw [← hsz]] at hW1
    have hN : nextR M D = begR M (syncD D (nmW x.1)) (x.1 + 1) := by
      unfold nextR
      rw [hlw, if_neg (by rw [h.segs]; simp; omega), if_neg (by rw [a0]; simp)]
    have hs2 : shB (M.segs ++ [x.1 + 1]) = true := by
      have h2 := h.sh
      rw [h.segs, List.map_append] at h2 ⊢
      exact shB_snoc h2 (by rw [List.length_map]; exact hn) hl
    have hy := shY_size (M.segs ++ [x.1 + 1])
    rcases h1.beg hk M (x.1 + 1) hs2 with ⟨D1, e1, h2⟩ | ⟨D1, g1, e1, hr2, hg1, h2⟩
    · have hW2 := hW1.snoc hn hl rfl
      have hl2 : lastW { M with segs := M.segs ++ [x.1 + 1], size := 16 } = x.1 + 1 := by unfold lastW; simp
      have hf2 := hW2.file (x.1 + 1, (hdW (x.1 + 1)).data.toList, 16) (by simp)
      rcases h2.append hf2 b with ⟨a1, h3⟩ | ⟨a1, a2, a3⟩
      · refine .inr (.inl ⟨hrb, _, _, ?_, rfl, h3.up (by omega) (by omega), ?_⟩)
        · unfold wrtR
          simp only [if_neg hb0, if_pos hr, hN, e1, hl2, a1, ne_eq, not_true_eq_false, if_false]
        · have h9 := hW2.set (g' := upd (begG (upd g (nmW x.1) (some ⟨nmW x.1, x.2.1, x.2.1.length⟩)) (x.1 + 1) (M.segs ++ [x.1 + 1])) (nmW (x.1 + 1)) (some ⟨nmW (x.1 + 1), (hdW (x.1 + 1)).data.toList ++ b.data.toList, 16⟩)) ((hdW (x.1 + 1)).data.toList ++ b.data.toList) 16 (fun t h1 _ _ => upd_other _ h1) (upd_self ..) ⟨b.data.toList, rfl⟩ (by rw [List.length_append, hdW_len, hbl]; show _ ≤ M.lim; omega) (by rw [List.length_append, hdW_len]; omega)
          rw [List.length_append, hdW_len, hbl] at h9
          exact h9
      · refine .inr (.inr ⟨by omega, _, _, _, _, (0, 0), ?_, h2.up (by omega) (by omega), hW2, ?_, ?_, ?_, by simp, rfl⟩)
        · unfold wrtR
          simp only [if_neg hb0, if_pos hr, hN, e1, hl2, a1, a2, ne_eq, not_true_eq_false, if_false, if_pos (show ¬ (17 : Int) = 0 by decide)]
        · rw [txt_app, txt_one, txt_app, txt_one, txt_app, txt_one]
          rw [show (hdW (x.1 + 1)).data.toList.drop 16 = [] from List.drop_eq_nil_of_le (by rw [hdW_len]; exact Nat.le_refl _), List.append_nil]
        · simp
        · intro y hy
          rcases List.mem_append.1 hy with hy | hy
          · rcases List.mem_append.1 hy with hy | hy
            · have := h.lt y hy; omega
            · rw [List.mem_singleton.1 hy]; show x.1 ≤ _; omega
          · rw [List.mem_singleton.1 hy]; exact Int.le_refl _
    · have hW2 := hW1.set (g' := g1) x.2.1 x.2.1.length (fun t h1 h2 h3 => hg1 t (h3 _ (by omega) (by omega)) h2) (by rw [hg1 _ (fun e => by have := nmW_inj hbx (by omega) e; omega) (nmW_ne1 _)]; exact upd_self ..) ⟨[], by simp⟩ (by omega) (by omega)
      rw [show ({ M with size := x.2.1.length } : WM) = M by rw [← hsz]] at hW2
      refine .inr (.inr ⟨by omega, _, _, _, _, (0, 0), ?_, h2.up (by omega) (by omega), hW2, ?_, ?_, ?_, by simp, rfl⟩)
      · unfold wrtR
        simp only [if_neg hb0, if_pos hr, hN, e1, ne_eq, if_pos (show ¬ (17 : Int) = 0 by decide)]
      · rw [txt_app, txt_one, txt_app, txt_one]
      · simp
      · intro y hy
        rcases List.mem_append.1 hy with hy | hy
        · have := h.lt y hy; omega
        · rw [List.mem_singleton.1 hy]; show x.1 ≤ _; omega
  · have hrb : rollB M b.size = false := by
      unfold rollB
      by_cases h1 : M.lim < M.size + b.size
      · simp [h1, show ¬ 16 < M.size from fun h2 => hr ⟨h1, h2⟩]
      · simp [h1]
    rcases hS.append (h.file x hxm) b with ⟨a1, h3⟩ | ⟨a1, a2, a3⟩
    · refine .inl ⟨hrb, _, ?_, h3.up (by omega) (by omega), ?_⟩
      · unfold wrtR
        simp only [if_neg hb0, if_neg hr, hlw, a1, ne_eq, not_true_eq_false, if_false]
      · have h9 := h.set (g' := upd g (nmW x.1) (some ⟨nmW x.1, x.2.1 ++ b.data.toList, x.2.2⟩)) (x.2.1 ++ b.data.toList) x.2.2 (fun t h1 _ _ => upd_other _ h1) (upd_self ..) ⟨b.data.toList, rfl⟩ (by rw [List.length_append, hbl]; omega) (by rw [List.length_append]; omega)
        rw [List.length_append, hbl] at h9
        rw [show M.size + (b.size : Int) = ((x.2.1.length + b.size : Nat) : Int) by rw [hsz]; push_cast; rfl]
        exact h9
    · refine .inr (.inr ⟨by omega, _, _, _, _, (0, 0), ?_, hS.up (by omega) (by omega), h, rfl, by simp, ?_, by simp, rfl⟩)
      · unfold wrtR
        simp only [if_neg hb0, if_neg hr, hlw, a1, a2, ne_eq, not_true_eq_false, if_false, if_pos (show ¬ (17 : Int) = 0 by decide)]
      · intro y hy
        rcases List.mem_append.1 hy with hy | hy
        · have := h.lt y hy; omega
        · rw [List.mem_singleton.1 hy]; omega
/-- The first segment. -/
theorem St.make {D : PD} {r u k : Nat} {g : ByteArray → Option PF} (h : St D r u k g) (hk : k + 1 < 1000) (l : Int) :
    (∃ D', makR D l = (⟨limW l, [1], 16⟩, D', 0) ∧ St D' r (u + 22) (k + 2) (begG g 1 [1]) ∧ WI ⟨limW l, [1], 16⟩ (begG g 1 [1]) [(1, (hdW 1).data.toList, 16)]) ∨ (∃ M' D' g', makR D l = (M', D', 17) ∧ r < u + 22 ∧ St D' r (u + 16) (k + 2) g') := by
  have hy : (shY [1]).size = 6 := by kernel_rfl
  rcases h.beg hk ⟨limW l, [], 0⟩ 1 (show shB [1] = true by decide) with ⟨D1, e1, h2⟩ | ⟨D1, g1, e1, hr2, hg1, h2⟩
  · refine .inl ⟨_, e1, ?_, ?_⟩
    · rw [show (shY ((⟨limW l, [], 0⟩ : WM).segs ++ [1])).size = 6 from hy] at h2; exact h2
    · refine ⟨rfl, (show shB [1] = true by decide), by unfold limW; show 2100 ≤ min (max l 2100) 100000 ∧ min (max l 2100) 100000 ≤ 100000; omega, ?_, ?_, ?_, ?_, ?_, ?_, ?_⟩
      · intro y hy
        rw [List.mem_singleton.1 hy]
        unfold begG
        rw [upd_other _ (nmW_ne2 _), upd_other _ (nmW_ne1 _), upd_self]
      · unfold begG; rw [upd_self]
      · intro y hy
        simp at hy; rw [← hy]; show (16 : Int) = ((hdW 1).data.toList.length : Int); rw [hdW_len]; rfl
      · intro y hy
        rw [List.mem_singleton.1 hy]; exact ⟨[], by simp⟩
      · intro y hy
        rw [List.mem_singleton.1 hy]; show (hdW 1).data.toList.length ≤ (limW l).toNat; rw [hdW_len]; unfold limW; omega
      · intro y hy
        rw [List.mem_singleton.1 hy]; show 16 ≤ 16 ∧ 16 ≤ (hdW 1).data.toList.length; rw [hdW_len]; omega
      · intro A' x' e y hy
        cases A' with
        | nil => cases hy
        | cons z r => simp at e
  · exact .inr ⟨_, _, _, e1, by rw [show (shY ((⟨limW l, [], 0⟩ : WM).segs ++ [1])).size = 6 from hy] at hr2; omega, h2⟩

end Go.Proofs.YtoieacmipejfeaaGreatDoor

/- Disks as plain data: names stay apart and bounds hold behind a write; what the statements of layer 22 begin with. -/
namespace Go.Proofs.YtoieacmipejfeaaGreatDoor
open Go.RowKit Go.Shelf
set_option linter.unusedVariables false

theorem nm_appendD {D : PD} (h : Nm D.L) (s b : ByteArray) : Nm (appendD D s b).L := by
  unfold appendD; split
  · exact nm_turn (g := appP b) (fun _ => rfl) h s
  · exact h
theorem nm_renameD {D : PD} (h : Nm D.L) (s t : ByteArray) : Nm (renameD D s t).L := by
  unfold renameD; split
  · show Nm (renF D s t).L
    unfold renF
    split
    · exact nm_put (nm_del h s) _
    · exact h
  · exact h
theorem nm_saB {D : PD} (h : Nm D.L) (b : ByteArray) : Nm (saB D b).1.L := by
  have m1 : Nm (sa1 D).L := nm_removeD h _
  have m2 : Nm (sa2 D).L := nm_createD m1 _
  have m3 : Nm (sa3 D b).L := nm_appendD m2 _ b
  have m4 : Nm (sa4 D b).L := nm_syncD m3 _
  have m5 : Nm (sa5 D b).L := nm_renameD m4 _ _
  unfold saB
  split
  · exact h
  · split
    · exact m2
    · split
      · exact m3
      · split
        · exact m4
        · exact m5
theorem nm_saR {D : PD} (h : Nm D.L) (l : List Int) : Nm (saR D l).1.L := by
  unfold saR; split
  · exact nm_saB h _
  · exact h
theorem nm_beg {D : PD} (hm : Nm D.L) (M : WM) (id : Int) : Nm (begR M D id).2.1.L := by
  have m1 := nm_layR hm id
  unfold begR
  dsimp only
  generalize layR D id = L at *
  obtain ⟨D1, e1⟩ := L
  dsimp only at *
  have m2 := nm_saR m1 (M.segs ++ [id])
  generalize saR D1 (M.segs ++ [id]) = S at *
  obtain ⟨D2, e2⟩ := S
  dsimp only at *
  by_cases h1 : e1 = 0
  · rw [if_pos h1]
    dsimp only
    split
    · exact m2
    · exact nm_removeD m2 _
  · rw [if_neg h1]
    dsimp only
    split
    · exact m1
    · exact nm_removeD m1 _
theorem nm_next {D : PD} (hm : Nm D.L) (M : WM) : Nm (nextR M D).2.1.L := by
  unfold nextR
  split
  · exact hm
  · split
    · exact nm_syncD hm _
    · exact nm_beg (nm_syncD hm _) M _
theorem fit_wrt {D : PD} {n : Nat} (hf : Fit D n) (hm : Nm D.L) (M : WM) (b : ByteArray) : Fit (wrtR M D b).2.1 (n + 12) := by
  unfold wrtR
  split
  · exact hf.up (by omega)
  · have fa : Fit (if M.lim < M.size + b.size ∧ 16 < M.size then nextR M D else (M, D, 0)).2.1 (n + 11) := by
      split
      · exact fit_next hf hm M
      · exact hf.up (by omega)
    have ma : Nm (if M.lim < M.size + b.size ∧ 16 < M.size then nextR M D else (M, D, 0)).2.1.L := by
      split
      · exact nm_next hm M
      · exact hm
    dsimp only
    generalize (if M.lim < M.size + b.size ∧ 16 < M.size then nextR M D else (M, D, 0)) = A at *
    split
    · exact fa.up (by omega)
    · split
      · exact fa.append ma _ b
      · exact fa.append ma _ b
theorem st_new (r : Nat) : St ⟨[], r, 0, false, 0⟩ r 0 0 (fun _ => none) := ⟨rfl, rfl, Nat.le_refl _, Nat.zero_le _, Nat.le_refl _, List.Pairwise.nil, fun _ => rfl⟩
theorem fit_new (r : Nat) (hr : r ≤ 1000000) : Fit ⟨[], r, 0, false, 0⟩ 0 := ⟨hr, Nat.zero_le _, Nat.zero_le _, Nat.le_refl _, by show (0 : Nat) < _; decide⟩
theorem k22 : ∃ D1 D2, makR ⟨[], 100000, 0, false, 0⟩ 0 = (⟨2100, [1], 16⟩, D1, 0) ∧ wrtR ⟨2100, [1], 16⟩ D1 ⟨#[97, 98, 99]⟩ = (⟨2100, [1], 19⟩, D2, (1, 16), 0) ∧ Fit D1 10 ∧ Fit D2 22 ∧ askE D2 (nmW 1) = 0 ∧ askE D2 (nmW 2) = 19 ∧ (readB D2 (nmW 1)).size = 19 := by
  have hm0 : Nm (⟨[], 100000, 0, false, 0⟩ : PD).L := List.Pairwise.nil
  rcases (st_new 100000).make (by omega) 0 with ⟨D1, e1, h1, hW1⟩ | ⟨M', D', g', e1, hr, -⟩
  · have hl : limW 0 = 2100 := by decide
    rw [hl] at e1 hW1
    rcases WI.write (A := []) (b := ⟨#[97, 98, 99]⟩) h1 hW1 (by decide) (by simp) (by decide) (by omega) with ⟨-, D2, e2, h2, hW2⟩ | ⟨hb, -⟩ | ⟨hr, -⟩
    · refine ⟨D1, D2, e1, e2, ?_, ?_, ?_, ?_, ?_⟩
      · have := fit_beg (fit_new 100000 (by omega)) hm0 ⟨limW 0, [], 0⟩ 1
        rw [show begR ⟨limW 0, [], 0⟩ ⟨[], 100000, 0, false, 0⟩ 1 = makR ⟨[], 100000, 0, false, 0⟩ 0 from rfl, e1] at this
        exact this
      · have f1 := fit_beg (fit_new 100000 (by omega)) hm0 ⟨limW 0, [], 0⟩ 1
        rw [show begR ⟨limW 0, [], 0⟩ ⟨[], 100000, 0, false, 0⟩ 1 = makR ⟨[], 100000, 0, false, 0⟩ 0 from rfl, e1] at f1
        have := fit_wrt f1 h1.nm ⟨2100, [1], 16⟩ ⟨#[97, 98, 99]⟩
        rw [e2] at this
        exact this
      · exact h2.askY (upd_self ..)
      · refine h2.askN ?_
        rw [upd_other _ (fun e => absurd (nmW_inj (i := 2) (j := 1) (by omega) (by omega) e) (by decide))]
        unfold begG
        rw [upd_other _ (nmW_ne2 _), upd_other _ (nmW_ne1 _), upd_other _ (fun e => absurd (nmW_inj (i := 2) (j := 1) (by omega) (by omega) e) (by decide))]
      · rw [h2.read (upd_self ..)]
        show ((hdW 1).data.toList ++ _).toArray.size = 19
        rw [List.size_toArray, List.length_append, hdW_len]; rfl
    · exact absurd hb (by decide)
    · omega
  · omega

end Go.Proofs.YtoieacmipejfeaaGreatDoor

/- Plain data of the laws by hand of layer 22: a row of writes on a roomy disk. -/
namespace Go.Proofs.YtoieacmipejfeaaGreatDoor
open Go.RowKit Go.Shelf
set_option linter.unusedVariables false

/-- Behind i writes on a roomy disk. -/
def FI (lim : Int) (i : Nat) (M : WM) (D : PD) : Prop := ∃ g A x, St D 1000000 (22 + 4100 * i) (2 + 2 * i) g ∧ WI M g (A ++ [x]) ∧ x.1 = (A.length : Int) + 1 ∧ A.length ≤ i ∧ M.lim = lim ∧ Fit D (10 + 12 * i)
theorem FI.lens {lim : Int} {i : Nat} {M : WM} {D : PD} (h : FI lim i M D) : 0 < M.segs.length ∧ M.segs.length ≤ i + 1 := by
  obtain ⟨g, A, x, -, hW, -, hA, -⟩ := h
  rw [hW.segs]; simp; omega
theorem FI.size {lim : Int} {i : Nat} {M : WM} {D : PD} (h : FI lim i M D) : 16 ≤ M.size ∧ M.size ≤ lim ∧ 2100 ≤ lim ∧ lim ≤ 100000 ∧ M.lim = lim := by
  obtain ⟨g, A, x, -, hW, -, hA, hl, -⟩ := h
  have h1 := hW.size x (by simp)
  have h2 := hW.ge (x := x) (by simp)
  have h3 := hW.le x (by simp)
  have h4 := hW.lim
  rw [hl] at h3 h4
  omega
theorem FI.lastE {lim : Int} {i : Nat} {M : WM} {D : PD} (h : FI lim i M D) : lastW M = M.segs.length := by
  obtain ⟨g, A, x, -, hW, hx, -⟩ := h
  rw [hW.last, hW.segs, hx]; simp
theorem wf22 (l : List Int) (h : ∀ z ∈ l, 0 ≤ z ∧ z ≤ 100000000) : ∀ z ∈ l, (Lit.int .i64 z).wf = true := fun z hz => by
  have := h z hz
  simp [Lit.wf, IntKind.min, IntKind.max, IntKind.signed, IntKind.bits]; omega
theorem WI.wf {M : WM} {g : ByteArray → Option PF} {S : List SegC} (h : WI M g S) (hl : 0 ≤ lastW M ∧ lastW M ≤ 99999999) : ∀ z ∈ M.segs ++ [lastW M + 1], (Lit.int .i64 z).wf = true := wf22 _ fun z hz => by
  rcases List.mem_append.1 hz with hz | hz
  · rw [h.segs] at hz
    obtain ⟨x, hx, rfl⟩ := List.mem_map.1 hz
    have := h.bd x hx
    omega
  · rw [List.mem_singleton.1 hz]; omega
theorem FI.wf {lim : Int} {i : Nat} {M : WM} {D : PD} (h : FI lim i M D) (hi : i ≤ 100) : (∀ z ∈ M.segs ++ [lastW M + 1], (Lit.int .i64 z).wf = true) ∧ lastW M ≤ 99999999 ∧ 0 ≤ lastW M := by
  have h1 := h.lastE
  have h2 := h.lens
  refine ⟨?_, by omega, by omega⟩
  obtain ⟨g, A, x, -, hW, -⟩ := h
  exact hW.wf (by omega)
theorem FI.fit {lim : Int} {i : Nat} {M : WM} {D : PD} (h : FI lim i M D) : Fit D (10 + 12 * i) := by
  obtain ⟨g, A, x, -, -, -, -, -, hf⟩ := h; exact hf
theorem FI.write {lim : Int} {i : Nat} {M : WM} {D : PD} (h : FI lim i M D) (hi : i < 100) (b : ByteArray) (hb : 1 ≤ b.size ∧ b.size ≤ 2084) :
    (rollB M b.size = false ∧ ∃ D' a, wrtR M D b = ({ M with size := M.size + b.size }, D', (a, M.size), 0) ∧ FI lim (i + 1) { M with size := M.size + b.size } D') ∨
    (rollB M b.size = true ∧ ∃ D' a, wrtR M D b = ({ M with segs := M.segs ++ [lastW M + 1], size := 16 + b.size }, D', (a, 16), 0) ∧ FI lim (i + 1) { M with segs := M.segs ++ [lastW M + 1], size := 16 + b.size } D') := by
  obtain ⟨g, A, x, hS, hW, hx, hA, hl, hf⟩ := h
  have hlw := hW.last
  have hfw := fit_wrt hf hS.nm M b
  rcases hW.write hS hb (by omega) (by omega) (by omega) with ⟨h1, D', h2, h3, h4⟩ | ⟨h1, D', g', h2, h3, h4, h5⟩ | ⟨h1, -⟩
  · rw [h2] at hfw
    exact .inl ⟨h1, D', _, h2, _, A, (x.1, x.2.1 ++ b.data.toList, x.2.2), h3.up (by omega) (by omega), h4, hx, by omega, hl, hfw.up (by omega)⟩
  · rw [h2] at hfw
    refine .inr ⟨h1, D', _, by rw [hlw]; exact h2, _, _, _, h4.up (by omega) (by omega), by rw [hlw]; exact h5, ?_, ?_, hl, hfw.up (by omega)⟩
    · show x.1 + 1 = _
      rw [List.length_append]; simp; omega
    · rw [List.length_append]; simp; omega
  · omega
theorem FI.make (l : Int) : ∃ D, makR ⟨[], 1000000, 0, false, 0⟩ l = (⟨limW l, [1], 16⟩, D, 0) ∧ FI (limW l) 0 ⟨limW l, [1], 16⟩ D := by
  rcases (st_new 1000000).make (by omega) l with ⟨D1, e1, h1, hW1⟩ | ⟨M', D', g', e1, hr, -⟩
  · refine ⟨D1, e1, _, [], _, h1, hW1, by simp, by simp, rfl, ?_⟩
    have := fit_beg (fit_new 1000000 (by omega)) (show Nm (⟨[], 1000000, 0, false, 0⟩ : PD).L from List.Pairwise.nil) ⟨limW l, [], 0⟩ 1
    rw [show begR ⟨limW l, [], 0⟩ ⟨[], 1000000, 0, false, 0⟩ 1 = makR ⟨[], 1000000, 0, false, 0⟩ l from rfl, e1] at this
    exact this
  · omega

end Go.Proofs.YtoieacmipejfeaaGreatDoor
