/- Law ManySettled: for every input the call answers true; its arguments read as they did. No condition. -/
import Derived.Test.YtmmhghoapejaeaaGreatLaw
import Derived.Test.YtmmhghoapejaeaaGreatKnown7
import Derived.Test.YtmmhghoapejaeaaGreatManN
namespace Go.Proofs.YtmmhghoapejaeaaGreat.manySettled
open Go.ChangeShapes Go.WideShapes Go.ChangeAt Go.RowKit Go.Shelf
open Go.ChangeMaps (open_string shut_string)
set_option linter.unusedVariables false
attribute [local go_sem] Oper.semAt_some wide_fn wide_round_fn

def seL (T : Int) : List EntryC := [⟨1, T + 1, ⟨#[]⟩⟩, ⟨2, T + 2, ⟨#[]⟩⟩, ⟨3, T + 3, ⟨#[]⟩⟩]
def seA (i : Int) (a : Option Addr) : PartC := ⟨i, 1, a, 3, 3, 0, 0, 0, 0, 0, false, false⟩
def seG1 (i T : Int) : GM := ⟨i, 1, 0, 0, 0, 0, seL T⟩
def seG2 (i T : Int) : GM := ⟨i, 2, T + 1, 0, 0, 0, [⟨2, T + 2, ⟨#[]⟩⟩, ⟨3, T + 3, ⟨#[]⟩⟩]⟩
def seG3 (i st : Int) (r : List EntryC) : GM := ⟨i, 3, st, 0, 0, 0, r⟩
theorem se_a {i T : Int} (hi : 0 ≤ i ∧ i ≤ 999) (hT : 0 ≤ T ∧ T ≤ 70000) (a : Option Addr) : manE [] (seA i a, seL T) = 0 ∧ manD [] (seA i a, seL T) = [seG1 i T] := by
  have e1 : entryB ⟨1, T + 1, ⟨#[]⟩⟩ = true := by simp only [entryB, Bool.and_eq_true, wB_iff, decide_eq_true_eq]; exact ⟨by omega, by omega, by decide⟩
  have e2 : entryB ⟨2, T + 2, ⟨#[]⟩⟩ = true := by simp only [entryB, Bool.and_eq_true, wB_iff, decide_eq_true_eq]; exact ⟨by omega, by omega, by decide⟩
  have e3 : entryB ⟨3, T + 3, ⟨#[]⟩⟩ = true := by simp only [entryB, Bool.and_eq_true, wB_iff, decide_eq_true_eq]; exact ⟨by omega, by omega, by decide⟩
  have hb : isB (seA i a) (seL T) = true := by
    rw [isB_iff]
    refine ⟨hi, .inl ⟨rfl, by show (3 : Nat) ≠ 0; decide, ?_, rfl, rfl, rfl, rfl, rfl, rfl, rfl⟩⟩
    simp [areB, seL, stepsOf, stepB, e1, e2, e3]
    exact ⟨by kernel_rfl, by kernel_rfl⟩
  have hr : refP (seA i a, seL T) = false := refP_iff.2 ⟨hb, by show (1 : Int) ≠ 6; decide⟩
  have hc : chkG (newG i) (seA i a) (seL T) = 0 := by
    unfold chkG
    rw [if_neg (by rw [hb]; simp [seA, newG]), if_pos (show (seA i a).k = 1 from rfl)]
    rfl
  have hE : manE [] (seA i a, seL T) = 0 := by
    rw [manE_chk hr (by show (1 : Int) ≠ 3; decide) (by show (1 : Int) ≠ 5; decide)]
    exact hc
  refine ⟨hE, ?_⟩
  rw [manD_do hE (by show (1 : Int) ≠ 5; decide)]
  show putZ GM.id (doG (newG i) (seA i a) (seL T)) [] = _
  have hd : doG (newG i) (seA i a) (seL T) = seG1 i T := by
    unfold doG
    rw [hc, if_neg (by simp), if_pos (show (seA i a).k = 1 from rfl)]
    rfl
  rw [hd]; rfl
theorem se_c {i T : Int} (hi : 0 ≤ i ∧ i ≤ 999) : manE [seG1 i T] (k7P i 3 1 0, []) = 0 ∧ manD [seG1 i T] (k7P i 3 1 0, []) = [seG2 i T] := by
  have hb : isB (k7P i 3 1 0) [] = true := (isB_iff _ _).2 ⟨hi, .inr (.inr (.inl ⟨rfl, by show wB 1 1 1099511627776 = true; decide, .inr rfl, rfl, rfl, rfl, rfl, rfl, rfl⟩))⟩
  have hr : refP (k7P i 3 1 0, []) = false := refP_iff.2 ⟨hb, by show (3 : Int) ≠ 6; decide⟩
  have hg : getZ GM.id [seG1 i T] i = some (seG1 i T) := getZ_one (seG1 i T)
  have hm : manG [seG1 i T] i = seG1 i T := manG_one (seG1 i T)
  have hc : chkG (seG1 i T) (k7P i 3 1 0) [] = 0 := by
    unfold chkG
    rw [if_neg (by rw [hb]; simp [k7P, seG1]), if_neg (show ¬ (k7P i 3 1 0).k = 1 by show ¬ (3 : Int) = 1; decide), if_pos (show (k7P i 3 1 0).k = 3 from rfl)]
    rfl
  have hE : manE [seG1 i T] (k7P i 3 1 0, []) = 0 := by
    rw [manE_chk3 hr (by show (getZ GM.id [seG1 i T] i).isNone = false; rw [hg]; rfl) (by show (3 : Int) ≠ 5; decide)]
    show chkG (manG [seG1 i T] i) (k7P i 3 1 0) [] = 0
    rw [hm]; exact hc
  refine ⟨hE, ?_⟩
  rw [manD_do hE (by show (3 : Int) ≠ 5; decide)]
  show putZ GM.id (doG (manG [seG1 i T] i) (k7P i 3 1 0) []) [seG1 i T] = _
  have hd : doG (seG1 i T) (k7P i 3 1 0) [] = seG2 i T := by
    unfold doG
    rw [hc, if_neg (by simp), if_neg (show ¬ (k7P i 3 1 0).k = 1 by show ¬ (3 : Int) = 1; decide), if_neg (show ¬ (k7P i 3 1 0).k = 2 by show ¬ (3 : Int) = 2; decide), if_pos (show (k7P i 3 1 0).k = 3 from rfl)]
    rfl
  rw [hm, hd]
  exact putZ_one rfl
theorem se_s {i T st : Int} (hi : 0 ≤ i ∧ i ≤ 999) (hT : 1 ≤ st ∧ st ≤ 80000) : manE [seG2 i T] (k7P i 4 2 st, []) = 0 ∧ manD [seG2 i T] (k7P i 4 2 st, []) = [seG3 i st (if T + 2 ≠ st then [] else [⟨3, T + 3, ⟨#[]⟩⟩])] := by
  have hb : isB (k7P i 4 2 st) [] = true := (isB_iff _ _).2 ⟨hi, .inr (.inr (.inr (.inl ⟨rfl, by show wB 2 1 1099511627776 = true; decide, wB_iff.2 ⟨hT.1, Int.le_trans hT.2 (by decide)⟩, rfl, rfl, rfl, rfl, rfl, rfl⟩)))⟩
  have hr : refP (k7P i 4 2 st, []) = false := refP_iff.2 ⟨hb, by show (4 : Int) ≠ 6; decide⟩
  have hm : manG [seG2 i T] i = seG2 i T := manG_one (seG2 i T)
  have hc : chkG (seG2 i T) (k7P i 4 2 st) [] = 0 := by
    unfold chkG
    rw [if_neg (by rw [hb]; simp [k7P, seG2]), if_neg (show ¬ (k7P i 4 2 st).k = 1 by show ¬ (4 : Int) = 1; decide), if_neg (show ¬ (k7P i 4 2 st).k = 3 by show ¬ (4 : Int) = 3; decide), if_pos (show (k7P i 4 2 st).k = 4 from rfl)]
    rfl
  have hE : manE [seG2 i T] (k7P i 4 2 st, []) = 0 := by
    rw [manE_chk hr (by show (4 : Int) ≠ 3; decide) (by show (4 : Int) ≠ 5; decide)]
    show chkG (manG [seG2 i T] i) (k7P i 4 2 st) [] = 0
    rw [hm]; exact hc
  refine ⟨hE, ?_⟩
  rw [manD_do hE (by show (4 : Int) ≠ 5; decide)]
  show putZ GM.id (doG (manG [seG2 i T] i) (k7P i 4 2 st) []) [seG2 i T] = _
  have hd : doG (seG2 i T) (k7P i 4 2 st) [] = seG3 i st (if T + 2 ≠ st then [] else [⟨3, T + 3, ⟨#[]⟩⟩]) := by
    unfold doG
    rw [hc, if_neg (by simp), if_neg (show ¬ (k7P i 4 2 st).k = 1 by show ¬ (4 : Int) = 1; decide), if_neg (show ¬ (k7P i 4 2 st).k = 2 by show ¬ (4 : Int) = 2; decide), if_neg (show ¬ (k7P i 4 2 st).k = 3 by show ¬ (4 : Int) = 3; decide)]
    show (⟨i, 3, st, 0, 0, 0, btw (seG2 i T).l 3 (if T + 2 ≠ st then minI else maxI) ++ []⟩ : GM) = _
    by_cases h : T + 2 ≠ st
    · rw [if_pos h, if_pos h]; rfl
    · rw [if_neg h, if_neg h]; rfl
  rw [hm, hd]
  exact putZ_one rfl
theorem se_all {i T st : Int} (hi : 0 ≤ i ∧ i ≤ 999) (hT : 0 ≤ T ∧ T ≤ 70000) (hs : 1 ≤ st ∧ st ≤ 80000) (a : Option Addr) :
    manT [] [(seA i a, seL T), (k7P i 3 1 0, []), (k7P i 4 2 st, [])] = 0 ∧ manW [] [(seA i a, seL T), (k7P i 3 1 0, []), (k7P i 4 2 st, [])] = [seG3 i st (if T + 2 ≠ st then [] else [⟨3, T + 3, ⟨#[]⟩⟩])] ∧
    manS [] [(seA i a, seL T), (k7P i 3 1 0, []), (k7P i 4 2 st, [])] = [(seA i a, seL T), (k7P i 3 1 (T + 1), []), (k7P i (if T + 2 ≠ st then 4 else 3) 2 st, [])] := by
  obtain ⟨a1, a2⟩ := se_a hi hT a
  obtain ⟨c1, c2⟩ := se_c (T := T) hi
  obtain ⟨s1, s2⟩ := se_s (T := T) hi hs
  obtain ⟨h1, h2⟩ := manF_three ⟨a1, a2⟩ ⟨c1, c2⟩ ⟨s1, s2⟩
  have hm1 : manG [seG1 i T] i = seG1 i T := manG_one (seG1 i T)
  have hm2 : manG [seG2 i T] i = seG2 i T := manG_one (seG2 i T)
  refine ⟨h1, ?_, ?_⟩
  · have h3 : manDo [] [(seA i a, seL T), (k7P i 3 1 0, []), (k7P i 4 2 st, [])] = manW [] [(seA i a, seL T), (k7P i 3 1 0, []), (k7P i 4 2 st, [])] := by unfold manDo; rw [if_pos h1]
    rw [← h3]; exact h2
  · show [setX [] (seA i a, seL T), setX (manD [] (seA i a, seL T)) (k7P i 3 1 0, []), setX (manD (manD [] (seA i a, seL T)) (k7P i 3 1 0, [])) (k7P i 4 2 st, [])] = _
    rw [a2, c2, setX_ok a1, setX_ok c1, setX_ok s1]
    have p1 : setP (manG [] (seA i a, seL T).1.g) (seA i a, seL T).1 = seA i a := rfl
    have p2 : setP (manG [seG1 i T] (k7P i 3 1 0, ([] : List EntryC)).1.g) (k7P i 3 1 0, ([] : List EntryC)).1 = k7P i 3 1 (T + 1) := by
      show setP (manG [seG1 i T] i) (k7P i 3 1 0) = _
      rw [hm1]; rfl
    have p3 : setP (manG [seG2 i T] (k7P i 4 2 st, ([] : List EntryC)).1.g) (k7P i 4 2 st, ([] : List EntryC)).1 = k7P i (if T + 2 ≠ st then 4 else 3) 2 st := by
      show setP (manG [seG2 i T] i) (k7P i 4 2 st) = _
      rw [hm2]
      show (if (0 : Int) ≠ 0 then k7P i 4 2 st else if (4 : Int) = 3 then { k7P i 4 2 st with t := T + 2 } else if (4 : Int) = 4 ∧ st = T + 2 then { k7P i 4 2 st with k := 3 } else k7P i 4 2 st) = _
      rw [if_neg (by simp), if_neg (by decide)]
      by_cases h : T + 2 ≠ st
      · rw [if_neg (fun e => h e.2.symm), if_pos h]
      · rw [if_pos ⟨rfl, by omega⟩, if_neg h]; rfl
    rw [p1, p2, p3]
theorem se_ok {i T st : Int} (hi : 0 ≤ i ∧ i ≤ 999) (hT : 0 ≤ T ∧ T ≤ 70000) (hs : 1 ≤ st ∧ st ≤ 80000) : manOK 10 [seG3 i st (if T + 2 ≠ st then [] else [⟨3, T + 3, ⟨#[]⟩⟩])] := by
  refine ⟨List.pairwise_singleton _ _, fun g hg => ?_⟩
  rw [List.mem_singleton.1 hg]
  refine ⟨isG_iff.2 ⟨⟨hi, ⟨by show (1 : Int) ≤ 3; decide, by show (3 : Int) ≤ _; decide⟩, ⟨Int.le_trans (by decide) hs.1, Int.le_trans hs.2 (by decide)⟩⟩, by show hardB 0 0 0 = true; decide, ?_⟩, ?_⟩
  · show denseB (if T + 2 ≠ st then [] else [⟨3, T + 3, ⟨#[]⟩⟩]) 3 = true
    split
    · rfl
    · have e3 : entryB ⟨3, T + 3, ⟨#[]⟩⟩ = true := by simp only [entryB, Bool.and_eq_true, wB_iff, decide_eq_true_eq]; exact ⟨by omega, by omega, by decide⟩
      simp [denseB, e3]
  · show (if T + 2 ≠ st then [] else [(⟨3, T + 3, ⟨#[]⟩⟩ : EntryC)]).length ≤ 10
    split <;> simp
theorem hasE_se {W : World} {i T : Int} : HasE (W.alloc (.cells #[.int .i64 1, .int .i64 (T + 1), .string ⟨#[]⟩, .int .i64 2, .int .i64 (T + 2), .string ⟨#[]⟩, .int .i64 3, .int .i64 (T + 3), .string ⟨#[]⟩] 59)) (seA i (some ⟨W.heap.size, 0, none⟩)) (seL T) :=
  ⟨rfl, by show 3 < 1000000; decide, rowV_new W 59 _ 3 3 rfl (by decide)⟩
theorem hasP_se {W : World} {i T st : Int} {a : Option Addr} (hp : HasE W (seA i a) (seL T)) :
    HasP (W.alloc (.cells #[.int .i64 i, .int .i64 1, .slice a 3 3, .int .i64 0, .int .i64 0, .int .i64 0, .int .i64 0, .int .i64 0, .bool false, .bool false, .int .i64 i, .int .i64 3, .slice none 0 0, .int .i64 0, .int .i64 0, .int .i64 0, .int .i64 1, .int .i64 0, .bool false, .bool false, .int .i64 i, .int .i64 4, .slice none 0 0, .int .i64 0, .int .i64 0, .int .i64 0, .int .i64 2, .int .i64 st, .bool false, .bool false] 44)) (some ⟨W.heap.size, 0, none⟩) 3 [(seA i a, seL T), (k7P i 3 1 0, []), (k7P i 4 2 st, [])] := by
  have hB := fun cs => bel_alloc (Below.refl W.heap.size W) (.cells cs 44)
  refine ⟨rfl, by decide, rowV_new W 44 _ 3 10 rfl (by decide), fun x hx => ?_⟩
  simp only [List.mem_cons, List.not_mem_nil, or_false] at hx
  rcases hx with rfl | rfl | rfl
  · exact hp.below (hB _)
  · exact hasE_nil rfl rfl
  · exact hasE_nil rfl rfl
theorem three_in7 {p q r : PL} (h : -9223372036854775808 ≤ p.1.g ∧ p.1.g < 9223372036854775808) (k : -9223372036854775808 ≤ q.1.g ∧ q.1.g < 9223372036854775808) (m : -9223372036854775808 ≤ r.1.g ∧ r.1.g < 9223372036854775808) : ∀ x ∈ [p, q, r], -9223372036854775808 ≤ x.1.g ∧ x.1.g < 9223372036854775808 := fun x hx => by
  simp only [List.mem_cons, List.not_mem_nil, or_false] at hx
  rcases hx with rfl | rfl | rfl
  · exact h
  · exact k
  · exact m
/-- What the settled list is: what the law reads of it; done it makes the group. -/
def SeP (w : World) (i T st kk : Int) (W : World) (e : Ending) (w' : World) : Prop :=
  ∃ b off c S, e = .returned (.slice (some ⟨b, off, none⟩) 3 c) ∧ HasP w' (some ⟨b, off, none⟩) 3 S ∧ S.map core = [core (seA i none, seL T), core (k7P i 3 1 (T + 1), []), core (k7P i kk 2 st, [])] ∧ b < w'.heap.size ∧ Below W.heap.size W w' ∧
    w'.cell? ⟨b, off + 1, none⟩ = some (.int .i64 1) ∧ w'.cell? ⟨b, off + 11, none⟩ = some (.int .i64 3) ∧ w'.cell? ⟨b, off + 17, none⟩ = some (.int .i64 (T + 1)) ∧ w'.cell? ⟨b, off + 26, none⟩ = some (.int .i64 2) ∧ w'.cell? ⟨b, off + 27, none⟩ = some (.int .i64 st) ∧ w'.cell? ⟨b, off + 21, none⟩ = some (.int .i64 kk)
theorem se_settle {w W : World} {d : Nat} {i T st kk : Int} {a : Option Addr} {o : Obj} (h : MS w d [] W) (hi : 0 ≤ i ∧ i ≤ 999) (hT : 0 ≤ T ∧ T ≤ 70000) (hs : 1 ≤ st ∧ st ≤ 80000) (hk : (if T + 2 ≠ st then (4 : Int) else 3) = kk) (q : Nat) (hq : q = W.heap.size)
    (hp : HasP (W.alloc o) (some ⟨W.heap.size, 0, none⟩) 3 [(seA i a, seL T), (k7P i 3 1 0, []), (k7P i 4 2 st, [])]) : Calls Tryz.prog 15 #[.pointer (some ⟨d, 0, none⟩), .slice (some ⟨q, 0, none⟩) 3 3] (W.alloc o) (SeP w i T st kk W) := by
  subst hq
  have hB := bel_alloc (Below.refl W.heap.size W) o
  have h64 : -9223372036854775808 ≤ i ∧ i < 9223372036854775808 := ⟨by omega, by omega⟩
  refine (ms_settle (N := 1) (h.below hB) (manOK_nil _) (some ⟨W.heap.size, 0, none⟩) 3 3 _ hp (by decide) (three_in7 h64 h64 h64)).mono ?_
  rintro e w' ⟨a', c, S, rfl, hP, hS, _, hB'⟩
  rw [(se_all hi hT hs a).2.2, hk] at hS
  have hP' : HasP w' a' 3 S := hP
  have hS' : S.map core = [core (seA i none, seL T), core (k7P i 3 1 (T + 1), []), core (k7P i kk 2 st, [])] := hS
  obtain ⟨b, off, rfl, hb, hc⟩ := hP'.2.2.1.2.2 (by decide)
  have hl := hP'.1
  match S, hl, hS', hP', hc with
  | [x, y, z], _, hS', hP', hc =>
    simp only [List.map_cons, List.map_nil, List.cons.injEq, and_true] at hS'
    obtain ⟨ex, ey, ez⟩ := hS'
    obtain ⟨-, x1, -⟩ := part_at10 (k := 0) hb (Below.refl _ _) hc (show 0 < 3 by decide)
    obtain ⟨-, y1, -, -, -, -, -, y7, -⟩ := part_at10 (k := 1) hb (Below.refl _ _) hc (show 1 < 3 by decide)
    obtain ⟨-, z1, -, -, -, -, z6, z7, -⟩ := part_at10 (k := 2) hb (Below.refl _ _) hc (show 2 < 3 by decide)
    have f1 : x.1.k = 1 := congrArg ReadC.k ex
    have f2 : y.1.k = 3 := congrArg ReadC.k ey
    have f3 : y.1.t = T + 1 := congrArg ReadC.t ey
    have f4 : z.1.i = 2 := congrArg ReadC.i ez
    have f5 : z.1.t = st := congrArg ReadC.t ez
    have f6 : z.1.k = kk := congrArg ReadC.k ez
    refine ⟨b, off, c, [x, y, z], rfl, hP', by simp [ex, ey, ez], hb, bel2 hB hB', ?_, ?_, ?_, ?_, ?_, ?_⟩
    · rw [← f1]; exact x1
    · rw [← f2]; exact y1
    · rw [← f3]; exact y7
    · rw [← f4]; exact z6
    · rw [← f5]; exact z7
    · rw [← f6]; exact z1
theorem se_do {w W : World} {d : Nat} {i T st kk : Int} {b off c : Nat} {S : List PL} (h : MS w d [] W) (hi : 0 ≤ i ∧ i ≤ 999) (hT : 0 ≤ T ∧ T ≤ 70000) (hs : 1 ≤ st ∧ st ≤ 80000) (hk : (if T + 2 ≠ st then (4 : Int) else 3) = kk) (hP : HasP W (some ⟨b, off, none⟩) 3 S) (hS : S.map core = [core (seA i none, seL T), core (k7P i 3 1 (T + 1), []), core (k7P i kk 2 st, [])]) :
    Calls Tryz.prog 19 #[.pointer (some ⟨d, 0, none⟩), .slice (some ⟨b, off, none⟩) 3 c] W fun e w' => e = .returned (.int .i64 0) ∧ MS w d [seG3 i st (if T + 2 ≠ st then [] else [⟨3, T + 3, ⟨#[]⟩⟩])] w' ∧ FrameT (fun k => k = d) W w' := by
  obtain ⟨a1, a2, a3⟩ := se_all hi hT hs none
  rw [hk] at a3
  have hl : ∀ x ∈ [(seA i none, seL T), (k7P i 3 1 0, []), (k7P i 4 2 st, [])], x.2.length = x.1.len := fun x hx => by
    simp only [List.mem_cons, List.not_mem_nil, or_false] at hx
    rcases hx with rfl | rfl | rfl <;> rfl
  obtain ⟨s1, s2⟩ := settled_same (N := 1) (S := S) (manOK_nil _) (by show 1 + 6 * 3 ≤ 100000; decide) hl (by rw [a3]; exact hS) (fun x hx => (hP.2.2.2 x hx).1) a1
  have hgid : ∀ x ∈ S, -9223372036854775808 ≤ x.1.g ∧ x.1.g < 9223372036854775808 := fun x hx => by
    have h2 := refP_iff.1 (show refP x = false by
      rw [Bool.eq_false_iff]; intro h
      have h1 := (manT_zero s1).2.1
      rw [List.any_eq_false] at h1
      exact h1 x hx h)
    have := isB_gid h2.1
    omega
  have := ms_do (N := 1) h (manOK_nil _) (some ⟨b, off, none⟩) 3 c S hP (by decide) hgid
  rw [s1, s2, a2] at this
  exact this
theorem cells10_of {W : World} {b : Nat} {T : TypeId} {v0 v1 v2 v3 v4 v5 v6 v7 v8 v9 : Value} (h : W.heap[b]? = some (.cells #[v0, v1, v2, v3, v4, v5, v6, v7, v8, v9] T (0, 0))) :
    W.cell? ⟨b, 0, none⟩ = some v0 ∧ W.cell? ⟨b, 1, none⟩ = some v1 ∧ W.cell? ⟨b, 2, none⟩ = some v2 ∧ W.cell? ⟨b, 3, none⟩ = some v3 ∧ W.cell? ⟨b, 4, none⟩ = some v4 ∧ W.cell? ⟨b, 5, none⟩ = some v5 ∧ W.cell? ⟨b, 6, none⟩ = some v6 ∧ W.cell? ⟨b, 7, none⟩ = some v7 ∧ W.cell? ⟨b, 8, none⟩ = some v8 ∧ W.cell? ⟨b, 9, none⟩ = some v9 :=
  ⟨cell_of_row _ _ 0 _ _ _ h, cell_of_row _ _ 1 _ _ _ h, cell_of_row _ _ 2 _ _ _ h, cell_of_row _ _ 3 _ _ _ h, cell_of_row _ _ 4 _ _ _ h, cell_of_row _ _ 5 _ _ _ h, cell_of_row _ _ 6 _ _ _ h, cell_of_row _ _ 7 _ _ _ h, cell_of_row _ _ 8 _ _ _ h, cell_of_row _ _ 9 _ _ _ h⟩
set_option maxRecDepth 100000 in
set_option maxHeartbeats 4000000 in
theorem settled_fits (id : Nat) (hid : id < 256) (t : Nat) (ht : t < 65536) (w : World) : Calls Tryz.prog 7 #[.int .u8 id, .int .u16 t, .bool true] w fun e w' => e = .returned (.bool true) ∧ Below w.heap.size w w' := by
  have GK := Lib.hid man_known
  have h9 : 0 ≤ (id : Int) ∧ (id : Int) ≤ 999 := ⟨by omega, by omega⟩
  have hT : 0 ≤ (t : Int) ∧ (t : Int) ≤ 70000 := ⟨by omega, by omega⟩
  have hs : 1 ≤ ((t : Int) + 2) ∧ ((t : Int) + 2) ≤ 80000 := ⟨by omega, by omega⟩
  have hk : (if (t : Int) + 2 ≠ ((t : Int) + 2) then (4 : Int) else 3) = 3 := by rw [if_neg (by simp)]
  have hr : (if (t : Int) + 2 ≠ ((t : Int) + 2) then ([] : List EntryC) else [⟨3, (t : Int) + 3, ⟨#[]⟩⟩]) = [⟨3, (t : Int) + 3, ⟨#[]⟩⟩] := by rw [if_neg (by simp)]
  have GN := Lib.hid (fun w1 (hB : Below w.heap.size w w1) => ms_new hB)
  have GS := Lib.hid (fun W d a q (hq : q = W.heap.size) (h : MS w d [] W) (hp : HasE W (seA (id : Int) a) (seL (t : Int))) => se_settle (st := ((t : Int) + 2)) (kk := 3) h h9 hT hs hk q hq (hasP_se hp))
  have GD := Lib.hid (fun W d b off c S (h : MS w d [] W) (hP : HasP W (some ⟨b, off, none⟩) 3 S) (hS : S.map core = [core (seA (id : Int) none, seL (t : Int)), core (k7P (id : Int) 3 1 ((t : Int) + 1), []), core (k7P (id : Int) 3 2 ((t : Int) + 2), [])]) => se_do (c := c) h h9 hT hs hk hP hS)
  have hG3 : getZ GM.id [seG3 (id : Int) ((t : Int) + 2) (if (t : Int) + 2 ≠ ((t : Int) + 2) then [] else [⟨3, (t : Int) + 3, ⟨#[]⟩⟩])] (id : Int) = some (seG3 (id : Int) ((t : Int) + 2) (if (t : Int) + 2 ≠ ((t : Int) + 2) then [] else [⟨3, (t : Int) + 3, ⟨#[]⟩⟩])) := getZ_one (seG3 (id : Int) ((t : Int) + 2) (if (t : Int) + 2 ≠ ((t : Int) + 2) then [] else [⟨3, (t : Int) + 3, ⟨#[]⟩⟩]))
  rw [hr] at GD hG3
  have GG := Lib.hid (fun W d (h : MS w d [seG3 (id : Int) ((t : Int) + 2) [⟨3, (t : Int) + 3, ⟨#[]⟩⟩]] W) => (show Calls Tryz.prog 22 #[.pointer (some ⟨d, 0, none⟩), .int .i64 (id : Int)] W (fun e w' => ∃ a c, e = .returned (.tuple #[.agg #[.int .i64 (id : Int), .int .i64 3, .int .i64 ((t : Int) + 2), .int .i64 0, .int .i64 0, .int .i64 0, .slice a 1 c], .bool true]) ∧ Below W.heap.size W w') from by
    have := ms_get h (id : Int) (by omega)
    unfold getM at this
    rw [hG3] at this
    exact this.mono fun _ _ ⟨a, c, h1, _, _, h3⟩ => ⟨a, c, h1, h3⟩))
  have GL := Lib.hid (fun W d (h : MS w d [] W) => (show Calls Tryz.prog 25 #[.pointer (some ⟨d, 0, none⟩)] W (fun e w' => ∃ la lc, e = .returned (.slice la 0 lc) ∧ Below W.heap.size W w') from by
    refine (ms_all (N := 1) h (manOK_nil _)).mono ?_
    rintro e w' ⟨v, Gs, rfl, hg, ho, hh, hB⟩
    obtain ⟨la, lc, rfl, -, -⟩ := rowV_own ho
    exact ⟨la, lc, rfl, hB⟩))
  have q1 : IntKind.i64.wrap ((t : Int) + 1) = (t : Int) + 1 := IntWalk.i64_in _ (by omega)
  have q2 : IntKind.i64.wrap ((t : Int) + 2) = (t : Int) + 2 := IntWalk.i64_in _ (by omega)
  have q3 : IntKind.i64.wrap ((t : Int) + 3) = (t : Int) + 3 := IntWalk.i64_in _ (by omega)
  have q9 : IntKind.i64.wrap ((t : Int) + 9) = (t : Int) + 9 := IntWalk.i64_in _ (by omega)
  have q0 : IntKind.i64.wrap (t : Int) = (t : Int) := IntWalk.i64_in _ (by omega)
  clear h9 hT hs hk hr hG3
  go_enter Tryz.func7, Tryz.ntmps7
  go_wp2_with (first
    | (go_at_call 9; ((with_reducible refine (GK.out _).mono ?_); rintro e w1 ⟨rfl, hB1⟩))
    | (go_at_call 29; ((with_reducible refine (GN.out _ hB1).mono ?_); rintro e w2 ⟨d, rfl, -, hM, -⟩; clear hB1; have hA3 := bel_alloc (bel_alloc (bel_alloc (Below.refl w2.heap.size w2) (.cells #[.int .i64 1, .int .i64 ((t : Int) + 1), .string ⟨#[]⟩, .int .i64 2, .int .i64 ((t : Int) + 2), .string ⟨#[]⟩, .int .i64 3, .int .i64 ((t : Int) + 3), .string ⟨#[]⟩] 59)) (.cells #[.int .i64 (id : Int), .int .i64 1, .slice (some ⟨w2.heap.size, 0, none⟩) 3 3, .int .i64 0, .int .i64 0, .int .i64 0, .int .i64 0, .int .i64 0, .bool false, .bool false] 44)) (.cells #[.int .i64 (id : Int), .int .i64 4, .slice none 0 0, .int .i64 0, .int .i64 0, .int .i64 0, .int .i64 2, .int .i64 ((t : Int) + 2), .bool false, .bool false] 44); have HAL3 := alloc3m w2 #[.int .i64 1, .int .i64 ((t : Int) + 1), .string ⟨#[]⟩, .int .i64 2, .int .i64 ((t : Int) + 2), .string ⟨#[]⟩, .int .i64 3, .int .i64 ((t : Int) + 3), .string ⟨#[]⟩] #[.int .i64 (id : Int), .int .i64 1, .slice (some ⟨w2.heap.size, 0, none⟩) 3 3, .int .i64 0, .int .i64 0, .int .i64 0, .int .i64 0, .int .i64 0, .bool false, .bool false] #[.int .i64 (id : Int), .int .i64 4, .slice none 0 0, .int .i64 0, .int .i64 0, .int .i64 0, .int .i64 2, .int .i64 ((t : Int) + 2), .bool false, .bool false] 59 44 44; obtain ⟨hbe, hba, hbs⟩ := HAL3; have HC1 := cells10_of hba; have HC2 := cells10_of (show (((w2.alloc (.cells #[.int .i64 1, .int .i64 ((t : Int) + 1), .string ⟨#[]⟩, .int .i64 2, .int .i64 ((t : Int) + 2), .string ⟨#[]⟩, .int .i64 3, .int .i64 ((t : Int) + 3), .string ⟨#[]⟩] 59)).alloc (.cells #[.int .i64 (id : Int), .int .i64 1, .slice (some ⟨w2.heap.size, 0, none⟩) 3 3, .int .i64 0, .int .i64 0, .int .i64 0, .int .i64 0, .int .i64 0, .bool false, .bool false] 44)).alloc (.cells #[.int .i64 (id : Int), .int .i64 4, .slice none 0 0, .int .i64 0, .int .i64 0, .int .i64 0, .int .i64 2, .int .i64 ((t : Int) + 2), .bool false, .bool false] 44)).heap[w2.heap.size + 2]? = some (.cells #[.int .i64 (id : Int), .int .i64 4, .slice none 0 0, .int .i64 0, .int .i64 0, .int .i64 0, .int .i64 2, .int .i64 ((t : Int) + 2), .bool false, .bool false] 44 (0, 0)) from hbs); obtain ⟨x0, x1, x2, x3, x4, x5, x6, x7, x8, x9⟩ := HC1; obtain ⟨y0, y1, y2, y3, y4, y5, y6, y7, y8, y9⟩ := HC2; have fy := frozen_of_row _ (w2.heap.size + 2) 7 _ _ hbs))
    | (go_at_call 15; ((with_reducible refine (GS.out _ _ _ _ ?hq ?hm ?he).mono ?_); (case hq => simp); (case hm => exact hM.below hA3); (case he => exact (hasE_se (W := w2) (i := (id : Int)) (T := (t : Int))).below (bel_alloc (bel_alloc (Below.refl _ _) _) _)); rintro e w5 ⟨b, off, c, S, rfl, hP, hS, hb, hB5, s1, s2, s3, s4, s5, s6⟩)))
  have sy : w5.cell? ⟨w2.heap.size + 2, 7, none⟩ = some (.int .i64 ((t : Int) + 2)) := (hB5.cell (p := ⟨w2.heap.size + 2, 7, none⟩) (by simp)).trans y7
  have hM5 : MS w d [] w5 := (hM.below hA3).below hB5
  have hK5 : w2.heap.size + 2 < w5.heap.size := Nat.lt_of_lt_of_le (by simp) hB5.size
  have hKd : w2.heap.size + 2 ≠ d := by have := hM.lt; omega
  clear hB5 hA3 hbe hba hbs x0 x1 x2 x3 x4 x5 x6 x7 x8 x9 y0 y1 y2 y3 y4 y5 y6 y7 y8 y9 fy hM 
  generalize w2.heap.size + 2 = K at *
  go_region_held3 (fun W' => W'.cell? ⟨b, off + 1, none⟩ = some (.int .i64 1) ∧ W'.cell? ⟨b, off + 11, none⟩ = some (.int .i64 3) ∧ W'.cell? ⟨b, off + 17, none⟩ = some (.int .i64 ((t : Int) + 1)) ∧ W'.cell? ⟨b, off + 26, none⟩ = some (.int .i64 2) ∧ W'.cell? ⟨b, off + 27, none⟩ = some (.int .i64 ((t : Int) + 2)) ∧ W'.cell? ⟨b, off + 21, none⟩ = some (.int .i64 3) ∧ W'.cell? ⟨K, 7, none⟩ = some (.int .i64 ((t : Int) + 2))) (go_keep) (first
    | (go_at_call 25; ((with_reducible refine (GL.out _ _ ?hm).mono ?_); (case hm => first | exact hM5 | exact hM5.below (Below.refl _ _).drew); rintro e w6 ⟨la, lc, rfl, hB6⟩; have hX6 : Below w5.heap.size w5 w6 := (by first | exact hB6 | exact bel2 (Below.refl _ _).drew hB6); have hM6 := hM5.below hX6; have hP6 := hP.below hX6; have r1 := (hX6.cell (p := ⟨b, off + 1, none⟩) hb).trans s1; have r2 := (hX6.cell (p := ⟨b, off + 11, none⟩) hb).trans s2; have r3 := (hX6.cell (p := ⟨b, off + 17, none⟩) hb).trans s3; have r4 := (hX6.cell (p := ⟨b, off + 26, none⟩) hb).trans s4; have r5 := (hX6.cell (p := ⟨b, off + 27, none⟩) hb).trans s5; have r6 := (hX6.cell (p := ⟨b, off + 21, none⟩) hb).trans s6; have r7 := (hX6.cell (p := ⟨K, 7, none⟩) hK5).trans sy)))
  all_goals
    clear s1 s2 s3 s4 s5 s6 sy r1 r2 r3 r4 r5 r6
    have hK6 : K < w6.heap.size := Nat.lt_of_lt_of_le hK5 hX6.size
    go_wp2_with (first
      | (go_at_call 19; ((with_reducible refine (GD.out _ _ _ _ _ _ hM6 hP6 hS).mono ?_); rintro e w7 ⟨rfl, hM7, hF⟩; have r8 := hF.cell r7 hKd; have hK7 := Nat.lt_of_lt_of_le hK6 hF.size; clear hM6 hP6 r7 hF))
      | (go_at_call 22; ((with_reducible refine (GG.out _ _ hM7).mono ?_); rintro e w8 ⟨ga, gc, rfl, hB8⟩; have hA8 := bel_alloc (Below.refl w8.heap.size w8) (.cells #[.int .i64 (id : Int), .int .i64 3, .int .i64 ((t : Int) + 2), .int .i64 0, .int .i64 0, .int .i64 0, .slice ga 1 gc] 31); have hg := World.alloc_heap_new w8 (.cells #[.int .i64 (id : Int), .int .i64 3, .int .i64 ((t : Int) + 2), .int .i64 0, .int .i64 0, .int .i64 0, .slice ga 1 gc] 31); have hMz := (hM7.below hB8).below hA8; have r9 := (hA8.cell (p := ⟨K, 7, none⟩) (Nat.lt_of_lt_of_le hK7 hB8.size)).trans ((hB8.cell (p := ⟨K, 7, none⟩) hK7).trans r8); obtain ⟨g0, g1, g2, g3, g4, g5, g6, -⟩ := cells7 hg; clear hM7 hB8 hA8 hg r8)))
    go_ret
    exact ⟨by simp, hMz.bel⟩
set_option maxRecDepth 100000 in
set_option maxHeartbeats 4000000 in
theorem settled_not (id : Nat) (hid : id < 256) (t : Nat) (ht : t < 65536) (w : World) : Calls Tryz.prog 7 #[.int .u8 id, .int .u16 t, .bool false] w fun e w' => e = .returned (.bool true) ∧ Below w.heap.size w w' := by
  have GK := Lib.hid man_known
  have h9 : 0 ≤ (id : Int) ∧ (id : Int) ≤ 999 := ⟨by omega, by omega⟩
  have hT : 0 ≤ (t : Int) ∧ (t : Int) ≤ 70000 := ⟨by omega, by omega⟩
  have hs : 1 ≤ ((t : Int) + 9) ∧ ((t : Int) + 9) ≤ 80000 := ⟨by omega, by omega⟩
  have hk : (if (t : Int) + 2 ≠ ((t : Int) + 9) then (4 : Int) else 3) = 4 := by rw [if_pos (by omega)]
  have hr : (if (t : Int) + 2 ≠ ((t : Int) + 9) then ([] : List EntryC) else [⟨3, (t : Int) + 3, ⟨#[]⟩⟩]) = [] := by rw [if_pos (by omega)]
  have GN := Lib.hid (fun w1 (hB : Below w.heap.size w w1) => ms_new hB)
  have GS := Lib.hid (fun W d a q (hq : q = W.heap.size) (h : MS w d [] W) (hp : HasE W (seA (id : Int) a) (seL (t : Int))) => se_settle (st := ((t : Int) + 9)) (kk := 4) h h9 hT hs hk q hq (hasP_se hp))
  have GD := Lib.hid (fun W d b off c S (h : MS w d [] W) (hP : HasP W (some ⟨b, off, none⟩) 3 S) (hS : S.map core = [core (seA (id : Int) none, seL (t : Int)), core (k7P (id : Int) 3 1 ((t : Int) + 1), []), core (k7P (id : Int) 4 2 ((t : Int) + 9), [])]) => se_do (c := c) h h9 hT hs hk hP hS)
  have hG3 : getZ GM.id [seG3 (id : Int) ((t : Int) + 9) (if (t : Int) + 2 ≠ ((t : Int) + 9) then [] else [⟨3, (t : Int) + 3, ⟨#[]⟩⟩])] (id : Int) = some (seG3 (id : Int) ((t : Int) + 9) (if (t : Int) + 2 ≠ ((t : Int) + 9) then [] else [⟨3, (t : Int) + 3, ⟨#[]⟩⟩])) := getZ_one (seG3 (id : Int) ((t : Int) + 9) (if (t : Int) + 2 ≠ ((t : Int) + 9) then [] else [⟨3, (t : Int) + 3, ⟨#[]⟩⟩]))
  rw [hr] at GD hG3
  have GG := Lib.hid (fun W d (h : MS w d [seG3 (id : Int) ((t : Int) + 9) []] W) => (show Calls Tryz.prog 22 #[.pointer (some ⟨d, 0, none⟩), .int .i64 (id : Int)] W (fun e w' => ∃ a c, e = .returned (.tuple #[.agg #[.int .i64 (id : Int), .int .i64 3, .int .i64 ((t : Int) + 9), .int .i64 0, .int .i64 0, .int .i64 0, .slice a 0 c], .bool true]) ∧ Below W.heap.size W w') from by
    have := ms_get h (id : Int) (by omega)
    unfold getM at this
    rw [hG3] at this
    exact this.mono fun _ _ ⟨a, c, h1, _, _, h3⟩ => ⟨a, c, h1, h3⟩))
  have GL := Lib.hid (fun W d (h : MS w d [] W) => (show Calls Tryz.prog 25 #[.pointer (some ⟨d, 0, none⟩)] W (fun e w' => ∃ la lc, e = .returned (.slice la 0 lc) ∧ Below W.heap.size W w') from by
    refine (ms_all (N := 1) h (manOK_nil _)).mono ?_
    rintro e w' ⟨v, Gs, rfl, hg, ho, hh, hB⟩
    obtain ⟨la, lc, rfl, -, -⟩ := rowV_own ho
    exact ⟨la, lc, rfl, hB⟩))
  have q1 : IntKind.i64.wrap ((t : Int) + 1) = (t : Int) + 1 := IntWalk.i64_in _ (by omega)
  have q2 : IntKind.i64.wrap ((t : Int) + 2) = (t : Int) + 2 := IntWalk.i64_in _ (by omega)
  have q3 : IntKind.i64.wrap ((t : Int) + 3) = (t : Int) + 3 := IntWalk.i64_in _ (by omega)
  have q9 : IntKind.i64.wrap ((t : Int) + 9) = (t : Int) + 9 := IntWalk.i64_in _ (by omega)
  have q0 : IntKind.i64.wrap (t : Int) = (t : Int) := IntWalk.i64_in _ (by omega)
  clear h9 hT hs hk hr hG3
  go_enter Tryz.func7, Tryz.ntmps7
  go_wp2_with (first
    | (go_at_call 9; ((with_reducible refine (GK.out _).mono ?_); rintro e w1 ⟨rfl, hB1⟩))
    | (go_at_call 29; ((with_reducible refine (GN.out _ hB1).mono ?_); rintro e w2 ⟨d, rfl, -, hM, -⟩; clear hB1; have hA3 := bel_alloc (bel_alloc (bel_alloc (Below.refl w2.heap.size w2) (.cells #[.int .i64 1, .int .i64 ((t : Int) + 1), .string ⟨#[]⟩, .int .i64 2, .int .i64 ((t : Int) + 2), .string ⟨#[]⟩, .int .i64 3, .int .i64 ((t : Int) + 3), .string ⟨#[]⟩] 59)) (.cells #[.int .i64 (id : Int), .int .i64 1, .slice (some ⟨w2.heap.size, 0, none⟩) 3 3, .int .i64 0, .int .i64 0, .int .i64 0, .int .i64 0, .int .i64 0, .bool false, .bool false] 44)) (.cells #[.int .i64 (id : Int), .int .i64 4, .slice none 0 0, .int .i64 0, .int .i64 0, .int .i64 0, .int .i64 2, .int .i64 ((t : Int) + 2), .bool false, .bool false] 44); have HAL3 := alloc3m w2 #[.int .i64 1, .int .i64 ((t : Int) + 1), .string ⟨#[]⟩, .int .i64 2, .int .i64 ((t : Int) + 2), .string ⟨#[]⟩, .int .i64 3, .int .i64 ((t : Int) + 3), .string ⟨#[]⟩] #[.int .i64 (id : Int), .int .i64 1, .slice (some ⟨w2.heap.size, 0, none⟩) 3 3, .int .i64 0, .int .i64 0, .int .i64 0, .int .i64 0, .int .i64 0, .bool false, .bool false] #[.int .i64 (id : Int), .int .i64 4, .slice none 0 0, .int .i64 0, .int .i64 0, .int .i64 0, .int .i64 2, .int .i64 ((t : Int) + 2), .bool false, .bool false] 59 44 44; obtain ⟨hbe, hba, hbs⟩ := HAL3; have HC1 := cells10_of hba; have HC2 := cells10_of (show (((w2.alloc (.cells #[.int .i64 1, .int .i64 ((t : Int) + 1), .string ⟨#[]⟩, .int .i64 2, .int .i64 ((t : Int) + 2), .string ⟨#[]⟩, .int .i64 3, .int .i64 ((t : Int) + 3), .string ⟨#[]⟩] 59)).alloc (.cells #[.int .i64 (id : Int), .int .i64 1, .slice (some ⟨w2.heap.size, 0, none⟩) 3 3, .int .i64 0, .int .i64 0, .int .i64 0, .int .i64 0, .int .i64 0, .bool false, .bool false] 44)).alloc (.cells #[.int .i64 (id : Int), .int .i64 4, .slice none 0 0, .int .i64 0, .int .i64 0, .int .i64 0, .int .i64 2, .int .i64 ((t : Int) + 2), .bool false, .bool false] 44)).heap[w2.heap.size + 2]? = some (.cells #[.int .i64 (id : Int), .int .i64 4, .slice none 0 0, .int .i64 0, .int .i64 0, .int .i64 0, .int .i64 2, .int .i64 ((t : Int) + 2), .bool false, .bool false] 44 (0, 0)) from hbs); obtain ⟨x0, x1, x2, x3, x4, x5, x6, x7, x8, x9⟩ := HC1; obtain ⟨y0, y1, y2, y3, y4, y5, y6, y7, y8, y9⟩ := HC2; have fy := frozen_of_row _ (w2.heap.size + 2) 7 _ _ hbs; have HB3 := alloc3m w2 #[.int .i64 1, .int .i64 ((t : Int) + 1), .string ⟨#[]⟩, .int .i64 2, .int .i64 ((t : Int) + 2), .string ⟨#[]⟩, .int .i64 3, .int .i64 ((t : Int) + 3), .string ⟨#[]⟩] #[.int .i64 (id : Int), .int .i64 1, .slice (some ⟨w2.heap.size, 0, none⟩) 3 3, .int .i64 0, .int .i64 0, .int .i64 0, .int .i64 0, .int .i64 0, .bool false, .bool false] #[.int .i64 (id : Int), .int .i64 4, .slice none 0 0, .int .i64 0, .int .i64 0, .int .i64 0, .int .i64 2, .int .i64 ((t : Int) + 9), .bool false, .bool false] 59 44 44; obtain ⟨hbe9, hba9, hbs9⟩ := HB3; have HC3 := cells10_of hba9; have HC4 := cells10_of (show (((w2.alloc (.cells #[.int .i64 1, .int .i64 ((t : Int) + 1), .string ⟨#[]⟩, .int .i64 2, .int .i64 ((t : Int) + 2), .string ⟨#[]⟩, .int .i64 3, .int .i64 ((t : Int) + 3), .string ⟨#[]⟩] 59)).alloc (.cells #[.int .i64 (id : Int), .int .i64 1, .slice (some ⟨w2.heap.size, 0, none⟩) 3 3, .int .i64 0, .int .i64 0, .int .i64 0, .int .i64 0, .int .i64 0, .bool false, .bool false] 44)).alloc (.cells #[.int .i64 (id : Int), .int .i64 4, .slice none 0 0, .int .i64 0, .int .i64 0, .int .i64 0, .int .i64 2, .int .i64 ((t : Int) + 9), .bool false, .bool false] 44)).heap[w2.heap.size + 2]? = some (.cells #[.int .i64 (id : Int), .int .i64 4, .slice none 0 0, .int .i64 0, .int .i64 0, .int .i64 0, .int .i64 2, .int .i64 ((t : Int) + 9), .bool false, .bool false] 44 (0, 0)) from hbs9); obtain ⟨u0, u1, u2, u3, u4, u5, u6, u7, u8, u9⟩ := HC3; obtain ⟨z0, z1, z2, z3, z4, z5, z6, z7, z8, z9⟩ := HC4; have hA9 := bel_alloc (bel_alloc (bel_alloc (Below.refl w2.heap.size w2) (.cells #[.int .i64 1, .int .i64 ((t : Int) + 1), .string ⟨#[]⟩, .int .i64 2, .int .i64 ((t : Int) + 2), .string ⟨#[]⟩, .int .i64 3, .int .i64 ((t : Int) + 3), .string ⟨#[]⟩] 59)) (.cells #[.int .i64 (id : Int), .int .i64 1, .slice (some ⟨w2.heap.size, 0, none⟩) 3 3, .int .i64 0, .int .i64 0, .int .i64 0, .int .i64 0, .int .i64 0, .bool false, .bool false] 44)) (.cells #[.int .i64 (id : Int), .int .i64 4, .slice none 0 0, .int .i64 0, .int .i64 0, .int .i64 0, .int .i64 2, .int .i64 ((t : Int) + 9), .bool false, .bool false] 44)))
    | (go_at_call 15; ((with_reducible refine (GS.out _ _ _ _ ?hq ?hm ?he).mono ?_); (case hq => simp); (case hm => exact hM.below hA9); (case he => exact (hasE_se (W := w2) (i := (id : Int)) (T := (t : Int))).below (bel_alloc (bel_alloc (Below.refl _ _) _) _)); rintro e w5 ⟨b, off, c, S, rfl, hP, hS, hb, hB5, s1, s2, s3, s4, s5, s6⟩)))
  have sy : w5.cell? ⟨w2.heap.size + 2, 7, none⟩ = some (.int .i64 ((t : Int) + 9)) := (hB5.cell (p := ⟨w2.heap.size + 2, 7, none⟩) (by simp)).trans z7
  have hM5 : MS w d [] w5 := (hM.below hA9).below hB5
  have hK5 : w2.heap.size + 2 < w5.heap.size := Nat.lt_of_lt_of_le (by simp) hB5.size
  have hKd : w2.heap.size + 2 ≠ d := by have := hM.lt; omega
  clear hB5 hA3 hbe hba hbs x0 x1 x2 x3 x4 x5 x6 x7 x8 x9 y0 y1 y2 y3 y4 y5 y6 y7 y8 y9 fy hM hbe9 hbs9 hba9 hA9 u0 u1 u2 u3 u4 u5 u6 u7 u8 u9 z0 z1 z2 z3 z4 z5 z6 z7 z8 z9
  generalize w2.heap.size + 2 = K at *
  go_region_held3 (fun W' => W'.cell? ⟨b, off + 1, none⟩ = some (.int .i64 1) ∧ W'.cell? ⟨b, off + 11, none⟩ = some (.int .i64 3) ∧ W'.cell? ⟨b, off + 17, none⟩ = some (.int .i64 ((t : Int) + 1)) ∧ W'.cell? ⟨b, off + 26, none⟩ = some (.int .i64 2) ∧ W'.cell? ⟨b, off + 27, none⟩ = some (.int .i64 ((t : Int) + 9)) ∧ W'.cell? ⟨b, off + 21, none⟩ = some (.int .i64 4) ∧ W'.cell? ⟨K, 7, none⟩ = some (.int .i64 ((t : Int) + 9))) (go_keep) (first
    | (go_at_call 25; ((with_reducible refine (GL.out _ _ ?hm).mono ?_); (case hm => first | exact hM5 | exact hM5.below (Below.refl _ _).drew); rintro e w6 ⟨la, lc, rfl, hB6⟩; have hX6 : Below w5.heap.size w5 w6 := (by first | exact hB6 | exact bel2 (Below.refl _ _).drew hB6); have hM6 := hM5.below hX6; have hP6 := hP.below hX6; have r1 := (hX6.cell (p := ⟨b, off + 1, none⟩) hb).trans s1; have r2 := (hX6.cell (p := ⟨b, off + 11, none⟩) hb).trans s2; have r3 := (hX6.cell (p := ⟨b, off + 17, none⟩) hb).trans s3; have r4 := (hX6.cell (p := ⟨b, off + 26, none⟩) hb).trans s4; have r5 := (hX6.cell (p := ⟨b, off + 27, none⟩) hb).trans s5; have r6 := (hX6.cell (p := ⟨b, off + 21, none⟩) hb).trans s6; have r7 := (hX6.cell (p := ⟨K, 7, none⟩) hK5).trans sy)))
  all_goals
    clear s1 s2 s3 s4 s5 s6 sy r1 r2 r3 r4 r5 r6
    have hK6 : K < w6.heap.size := Nat.lt_of_lt_of_le hK5 hX6.size
    go_wp2_with (first
      | (go_at_call 19; ((with_reducible refine (GD.out _ _ _ _ _ _ hM6 hP6 hS).mono ?_); rintro e w7 ⟨rfl, hM7, hF⟩; have r8 := hF.cell r7 hKd; have hK7 := Nat.lt_of_lt_of_le hK6 hF.size; clear hM6 hP6 r7 hF))
      | (go_at_call 22; ((with_reducible refine (GG.out _ _ hM7).mono ?_); rintro e w8 ⟨ga, gc, rfl, hB8⟩; have hA8 := bel_alloc (Below.refl w8.heap.size w8) (.cells #[.int .i64 (id : Int), .int .i64 3, .int .i64 ((t : Int) + 9), .int .i64 0, .int .i64 0, .int .i64 0, .slice ga 0 gc] 31); have hg := World.alloc_heap_new w8 (.cells #[.int .i64 (id : Int), .int .i64 3, .int .i64 ((t : Int) + 9), .int .i64 0, .int .i64 0, .int .i64 0, .slice ga 0 gc] 31); have hMz := (hM7.below hB8).below hA8; have r9 := (hA8.cell (p := ⟨K, 7, none⟩) (Nat.lt_of_lt_of_le hK7 hB8.size)).trans ((hB8.cell (p := ⟨K, 7, none⟩) hK7).trans r8); obtain ⟨g0, g1, g2, g3, g4, g5, g6, -⟩ := cells7 hg; clear hM7 hB8 hA8 hg r8)))
    go_ret
    exact ⟨by simp, hMz.bel⟩
theorem walk (id : Nat) (hid : id < 256) (t : Nat) (ht : t < 65536) (fits : Bool) (w : World) : Calls Tryz.prog 7 #[.int .u8 id, .int .u16 t, .bool fits] w fun e w' => e = .returned (.bool true) ∧ Below w.heap.size w w' := by
  cases fits
  · exact settled_not id hid t ht w
  · exact settled_fits id hid t ht w

set_option maxRecDepth 100000 in
theorem lifted (os : Os) (started : os.Started) (H : Type) (enc : TypeId × Value → H) :
    ReturnsInHanded {} Tryz.checked os 7 .any (Rows.manySettledSpec.pre6 enc Tryz.prog Tryz.f7 Rows.manySettledRow.domain false) (Rows.manySettledSpec.post enc Tryz.prog Tryz.f7 false true false false) := by
  refine returnsInHanded_of_change (C := Tryz.checked) Tryz.own started (by kernel_rfl) Tryz.func7
    (ChangeSpec.witness6 (enc := enc) (C := Tryz.checked) false ⟨#[], #[.int .u8 0, .int .u16 0, .bool false], []⟩ 8 (by kernel_rfl) (by kernel_rfl) (by kernel_rfl) (by kernel_rfl)) ?_
  intro W base args ds gs before hval hW _ _
  refine law_contract (T := 4) (n := 3) Tryz.laid Tryz.underlying4 rfl rfl ⟨rfl, fun H ds h => by match ds, h with | [_, _, _], _ => rfl⟩ (of_all (by kernel_rfl)) hW ?_
  intro ps hA
  rw [Tryz.params7] at hA hval
  obtain ⟨v0, vs0, d0, ds0, p0, q0, hargs, rfl, rfl, h0, r0⟩ := trodAll_cons hA
  obtain ⟨v1, vs1, d1, ds1, p1, q1, rfl, rfl, rfl, h1, r1⟩ := trodAll_cons r0
  obtain ⟨v2, vs2, d2, ds2, p2, q2, rfl, rfl, rfl, h2, r2⟩ := trodAll_cons r1
  obtain ⟨rfl, rfl, rfl⟩ := trodAll_nil r2
  obtain rfl : args = #[v0, v1, v2] := by cases args; simp_all
  obtain ⟨a0, rfl, rfl, rfl, w0⟩ := open_int Tryz.underlying5 (hval 0 5 v0 rfl rfl) h0
  obtain ⟨a1, rfl, rfl, rfl, w1⟩ := open_int Tryz.underlying61 (hval 1 61 v1 rfl rfl) h1
  obtain ⟨a2, rfl, rfl, rfl⟩ := open_bool Tryz.underlying4 (hval 2 4 v2 rfl rfl) h2
  obtain ⟨n0, rfl, b0⟩ := nat_of_u8 w0
  obtain ⟨n1, rfl, b1⟩ := nat_of_u16 w1
  exact walk n0 b0 n1 b1 a2 W

theorem holds : Rows.ManySettledSaid :=
  OpenClaim.holds_of_wide 7 Tryz.f7 rfl rfl rfl rfl rfl rfl rfl ⟨rfl, rfl, rfl, rfl, rfl⟩ rfl rfl rfl rfl rfl (by kernel_rfl) Tryz.func7 (by kernel_rfl)
    (of_decide_eq_true (by kernel_rfl)) (by unfold Func.isWrapper; first | (rw [if_pos (by decide +kernel)]; kernel_rfl) | (rw [if_neg (by decide +kernel)]; exact ⟨rfl, rfl⟩))
    (fun os started H enc _ => lifted os started H enc)
end Go.Proofs.YtmmhghoapejaeaaGreat.manySettled
