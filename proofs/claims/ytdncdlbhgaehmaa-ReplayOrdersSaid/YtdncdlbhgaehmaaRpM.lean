/- RpM, RpC, RpB, RpD, RpS, RpY: in one text. -/
import Derived.Test.YtdncdlbhgaehmaaLgK
import Derived.Test.YtdncdlbhgaehmaaShdS
/- Package replay: a replay in memory. -/
namespace Go.Proofs.Ytdncdlbhgaehmaa
open Go.RowKit Go.Shelf
set_option linter.unusedVariables false
attribute [local go_sem] Oper.semAt_some wide_fn wide_round_fn

/-- One shard: what it has left, its ledger. -/
structure RS where
  a : Option Addr
  c : Nat
  L : List FV
  e : Nat
  A : List LG
abbrev RS.val (x : RS) : Value := .slice x.a x.L.length x.c
abbrev RS.did (x : RS) (A : List LG) : RS := ⟨x.a, x.c, x.L, x.e, A⟩
abbrev RS.led (x : RS) : Value := .pointer (some ⟨x.e, 0, none⟩)
/-- A replay at r: its rows at R, the records that were cut since C in w2, its ledgers with their blocks T. -/
structure RpAt (w2 : World) (C R r : Nat) (v : Value) (T : Nat → Nat → Prop) (Rs : List RS) (W : World) : Prop where
  box : W.heap[r]? = some (.cells #[.slice (some ⟨R, 0, none⟩) Rs.length Rs.length, v] 77 (0, 0))
  row : W.heap[R]? = some (.cells (Rs.map RS.val).toArray 22 (0, 0))
  led : W.ownsRow w2.heap.size 53 1 v Rs.length (Rs.map RS.led)
  lo : R < C ∧ C ≤ w2.heap.size ∧ w2.heap.size ≤ r ∧ some r ≠ v.ownBlock
  frm : FrameT (fun k => k < C) w2 W
  fnd : ∀ x ∈ Rs, FNew C w2 x.a x.L.length x.L ∧ x.L.length ≤ x.c ∧ ∀ f ∈ x.L, CapL f.L
  lgs : ∀ i (h : i < Rs.length), LT W Rs[i].e Rs[i].A (T i)
  tlo : ∀ i, i < Rs.length → ∀ k, T i k → w2.heap.size ≤ k ∧ k ≠ r ∧ some k ≠ v.ownBlock
  tap : ∀ i j, i < Rs.length → j < Rs.length → i ≠ j → ∀ k, T i k → ¬ T j k
/-- What a replay's operations may change. -/
def ownRp (R : Nat) (T : Nat → Nat → Prop) (n : Nat) (k : Nat) : Prop := k = R ∨ ∃ i, i < n ∧ T i k
/-- No block of entries. -/
def NoEnt (W : World) (Z : Nat → Prop) : Prop := ∀ (a : Option Addr) (l : List EntryC), RowV W a l.length 3 (entryCells l) → ∀ k, inBlkE a l.length k → ¬ Z k
theorem LT.frame {W W' : World} {e : Nat} {A : List LG} {T Z : Nat → Prop} (h : LT W e A T) (hF : FrameT Z W W') (hT : ∀ k, T k → ¬ Z k) (hR : NoEnt W Z) : LT W' e A T := by
  obtain ⟨M, F, h, h1, rfl⟩ := h
  exact ⟨M, F, h.frame hF hT hR, h1, rfl⟩
theorem RpAt.frame {w2 W W' : World} {C R r : Nat} {v : Value} {T : Nat → Nat → Prop} {Rs : List RS} {Z : Nat → Prop} (h : RpAt w2 C R r v T Rs W) (hF : FrameT Z W W') (hR : ¬ Z R ∧ ¬ Z r) (hv : ∀ k, some k = v.ownBlock → ¬ Z k) (hZ : ∀ k, C ≤ k → k < w2.heap.size → ¬ Z k) (hT : ∀ i, i < Rs.length → ∀ k, T i k → ¬ Z k) (hE : NoEnt W Z) : RpAt w2 C R r v T Rs W' where
  box := hF.get h.box hR.2
  row := hF.get h.row hR.1
  led := ownL_frame h.led hF hv
  lo := h.lo
  frm := ⟨hF.os.trans h.frm.os, hF.tape.trans h.frm.tape, hF.output.trans h.frm.output, Nat.le_trans h.frm.size hF.size, fun k hk hT => (hF.block k (Nat.lt_of_lt_of_le hk h.frm.size) (hZ k (Nat.le_of_not_lt hT) hk)).trans (h.frm.block k hk hT)⟩
  fnd := h.fnd
  lgs := fun i hi => (h.lgs i hi).frame hF (hT i hi) hE
  tlo := h.tlo
  tap := h.tap
theorem RpAt.below {w2 W W' : World} {C R r : Nat} {v : Value} {T : Nat → Nat → Prop} {Rs : List RS} (h : RpAt w2 C R r v T Rs W) (hB : Below W.heap.size W W') : RpAt w2 C R r v T Rs W' :=
  h.frame (Z := fun _ => False) (FrameT.below hB) ⟨id, id⟩ (fun _ _ => id) (fun _ _ _ => id) (fun _ _ _ _ => id) (fun _ _ _ _ _ => id)
theorem RpAt.found {w2 W : World} {C R r : Nat} {v : Value} {T : Nat → Nat → Prop} {Rs : List RS} (h : RpAt w2 C R r v T Rs W) {x : RS} (hx : x ∈ Rs) : FNew C W x.a x.L.length x.L ∧ x.L.length ≤ x.c ∧ ∀ f ∈ x.L, CapL f.L :=
  ⟨(h.fnd x hx).1.frame h.frm (fun k hk _ hlt => by omega), (h.fnd x hx).2⟩
theorem RpAt.row_at {w2 W : World} {C R r : Nat} {v : Value} {T : Nat → Nat → Prop} {Rs : List RS} (h : RpAt w2 C R r v T Rs W) {i : Nat} (hi : i < Rs.length) : W.cell? ⟨R, i, none⟩ = some Rs[i].val := by
  rw [Lib.cell_of_heap h.row]; simp [hi]
theorem RpAt.box_at {w2 W : World} {C R r : Nat} {v : Value} {T : Nat → Nat → Prop} {Rs : List RS} (h : RpAt w2 C R r v T Rs W) : W.cell? ⟨r, 0, none⟩ = some (.slice (some ⟨R, 0, none⟩) Rs.length Rs.length) ∧ W.cell? ⟨r, 1, none⟩ = some v := ⟨cell_of_row _ _ 0 _ _ _ h.box, cell_of_row _ _ 1 _ _ _ h.box⟩
/-- The ledgers' row. -/
theorem RpAt.led_at {w2 W : World} {C R r : Nat} {v : Value} {T : Nat → Nat → Prop} {Rs : List RS} (h : RpAt w2 C R r v T Rs W) {i : Nat} (hi : i < Rs.length) : ∃ b off cap, v = .slice (some ⟨b, off, none⟩) Rs.length cap ∧ Rs.length ≤ cap ∧ b < W.heap.size ∧ W.cell? ⟨b, off + i, none⟩ = some Rs[i].led := by
  obtain ⟨a, cap, rfl, hc, hr⟩ := rowV_own h.led
  obtain ⟨b, off, rfl, hb, hx⟩ := hr.2.2 (by omega)
  exact ⟨b, off, cap, rfl, hc, hb, (hx i (by simpa using hi)).trans (by simp)⟩
/-- A ledger does a record's parts. -/
theorem rDo {w2 W : World} {C R r N c : Nat} {v : Value} {T : Nat → Nat → Prop} {Rs : List RS} (h : RpAt w2 C R r v T Rs W) {i : Nat} (hi : i < Rs.length) (hok : okA N Rs[i].A) (a : Option Addr) (len cap : Nat) (L : List PL) (hp : HasP W a len L) (hc : ∀ x ∈ L, x.2.length ≤ c ∧ x.2.length ≤ x.1.cap) (hN : N + len * (c + 2) ≤ 100000) (hA : Rs[i].A.length + len < 100000) (s t : Int) :
    Calls Try.prog 27 #[.pointer (some ⟨Rs[i].e, 0, none⟩), .slice a len cap, .agg #[.int .i64 s, .int .i64 t]] W fun q w' => (∃ v, q = .returned v) ∧ ∃ T', RpAt w2 C R r v T' (Rs.set i (Rs[i].did (ldo Rs[i].A L s t))) w' ∧ FrameT (ownRp R T Rs.length) W w' ∧ ∀ j, j < Rs.length → ∀ k, T' j k → T j k ∨ W.heap.size ≤ k := by
  refine (tDo (h.lgs i hi) hok a len cap L hp hc hN hA s t).mono ?_
  rintro q w' ⟨h1, Tn, h2, h3, h4⟩
  have hsz := h.frm.size
  have hrl := heap_lt h.box
  have hvl : ∀ k, some k = v.ownBlock → k < W.heap.size := fun k hk => (ownBlockL_lt h.led hk).1
  refine ⟨h1, fun j => if j = i then Tn else T j, ?_, h3.mono fun k hk => .inr ⟨i, hi, hk⟩, fun j hj k hk => ?_⟩
  · refine ⟨?_, ?_, ?_, h.lo, ?_, fun x hx => ?_, fun j hj => ?_, fun j hj k hk => ?_, fun j l hj hl hne k hk hk2 => ?_⟩
    · rw [List.length_set]; exact h3.get h.box (fun e => (h.tlo i hi _ e).2.1 rfl)
    · have e : (Rs.set i (Rs[i].did (ldo Rs[i].A L s t))).map RS.val = Rs.map RS.val := by
        rw [List.map_set]
        exact (congrArg ((Rs.map RS.val).set i) (show _ = (Rs.map RS.val)[i]'(by simpa using hi) by simp)).trans (List.set_getElem_self _)
      rw [e]
      exact h3.get h.row (fun e => by have := (h.tlo i hi _ e).1; have := h.lo; omega)
    · have e : (Rs.set i (Rs[i].did (ldo Rs[i].A L s t))).map RS.led = Rs.map RS.led := by
        rw [List.map_set]
        exact (congrArg ((Rs.map RS.led).set i) (show _ = (Rs.map RS.led)[i]'(by simpa using hi) by simp)).trans (List.set_getElem_self _)
      rw [e, List.length_set]
      exact ownL_frame h.led h3 (fun k hk hT => (h.tlo i hi k hT).2.2 hk)
    · exact ⟨h3.os.trans h.frm.os, h3.tape.trans h.frm.tape, h3.output.trans h.frm.output, Nat.le_trans h.frm.size h3.size, fun k hk hT => (h3.block k (Nat.lt_of_lt_of_le hk h.frm.size) (fun e => by have := (h.tlo i hi k e).1; omega)).trans (h.frm.block k hk hT)⟩
    · rcases List.mem_or_eq_of_mem_set hx with hx | rfl
      · exact h.fnd x hx
      · exact h.fnd Rs[i] (List.getElem_mem hi)
    · rw [List.length_set] at hj
      by_cases e : j = i
      · subst e
        simp only [List.getElem_set_self, if_true]; exact h2
      · simp only [if_neg e, List.getElem_set_ne (Ne.symm e)]
        exact (h.lgs j hj).other (h.lgs i hi) h3 (fun k hk => h.tap j i hj hi e k hk)
    · rw [List.length_set] at hj
      (try dsimp only at hk)
      by_cases e : j = i
      · rw [if_pos e] at hk
        rcases h4 k hk with hk | hk
        · exact h.tlo i hi k hk
        · exact ⟨by omega, by omega, fun e => by have := hvl k e; omega⟩
      · rw [if_neg e] at hk
        exact h.tlo j hj k hk
    · rw [List.length_set] at hj hl
      (try dsimp only at hk hk2)
      by_cases e : j = i
      · rw [if_pos e] at hk
        rw [if_neg (fun e2 => hne (e.trans e2.symm))] at hk2
        rcases h4 k hk with hk | hk
        · exact h.tap i l hi hl (fun e2 => hne (e.trans e2)) k hk hk2
        · have := (h.lgs l hl).lt hk2; omega
      · rw [if_neg e] at hk
        by_cases e2 : l = i
        · rw [if_pos e2] at hk2
          rcases h4 k hk2 with hk2 | hk2
          · exact h.tap j i hj hi e k hk hk2
          · have := (h.lgs j hj).lt hk; omega
        · rw [if_neg e2] at hk2
          exact h.tap j l hj hl hne k hk hk2
  · dsimp only at hk
    by_cases e : j = i
    · rw [if_pos e] at hk; rw [e]; exact h4 k hk
    · rw [if_neg e] at hk; exact .inl hk

end Go.Proofs.Ytdncdlbhgaehmaa

/- Package replay as plain data: what the shards have left, their ledgers. -/
namespace Go.Proofs.Ytdncdlbhgaehmaa
open Go.RowKit Go.Shelf
set_option linter.unusedVariables false

abbrev RC := List FC × List LG
def rcore (x : RS) : RC := (x.L.map fcore, x.A)
def ldoC (A : List LG) (l : List ReadC) (s t : Int) : List LG := ldo A (l.map plOf) s t
def stepRC (C : List RC) (i : Nat) : List RC := match C[i]? with
  | some (f :: l, A) => C.set i (l, ldoC A f.ps f.s f.t)
  | _ => C
def runC (C : List RC) (l : List Nat) : List RC := l.foldl stepRC C
def lenC (C : List RC) (i : Nat) : Nat := (C[i]?.map fun x => x.1.length).getD 0
def leftC (C : List RC) : Nat := (C.map fun x => x.1.length).sum
theorem runC_snoc (C : List RC) (l : List Nat) (i : Nat) : runC C (l ++ [i]) = stepRC (runC C l) i := by unfold runC; rw [List.foldl_append]; rfl
theorem stepRC_length (C : List RC) (i : Nat) : (stepRC C i).length = C.length := by
  unfold stepRC; split
  · rw [List.length_set]
  · rfl
theorem runC_length : ∀ (l : List Nat) (C : List RC), (runC C l).length = C.length
  | [], C => rfl
  | i :: l, C => (runC_length l (stepRC C i)).trans (stepRC_length C i)
theorem stepRC_lenC (C : List RC) (i j : Nat) : lenC (stepRC C i) j = if j = i then lenC C j - 1 else lenC C j := by
  unfold stepRC lenC
  split
  · rename_i f l A h
    by_cases e : j = i
    · subst e
      rw [if_pos rfl, h]
      have := (List.getElem?_eq_some_iff.1 h).1
      rw [List.getElem?_set_self this]
      simp
    · rw [if_neg e, List.getElem?_set_ne (Ne.symm e)]
  · rename_i h
    by_cases e : j = i
    · subst e
      rw [if_pos rfl]
      cases hC : C[j]? with
      | none => rfl
      | some x =>
        obtain ⟨xl, xA⟩ := x
        cases xl with
        | nil => rfl
        | cons f l => exact absurd hC (h f l xA)
    · rw [if_neg e]
theorem lenC_core {Rs : List RS} {C : List RC} (h : Rs.map rcore = C) {i : Nat} (hi : i < Rs.length) : Rs[i].L.length = lenC C i := by
  subst h
  unfold lenC
  simp [hi, rcore]
theorem leftC_core {Rs : List RS} {C : List RC} (h : Rs.map rcore = C) : leftC C = (Rs.map fun x => x.L.length).sum := by
  subst h
  unfold leftC
  rw [List.map_map]
  congr 1
  apply List.map_congr_left
  intro x _
  simp [rcore]
theorem leftC_zero : ∀ {C : List RC}, (∀ j, j < C.length → lenC C j = 0) → leftC C = 0
  | [], h => rfl
  | x :: r, h => by
    have h0 := h 0 (by simp)
    have h1 := leftC_zero (C := r) (fun j hj => by have := h (j + 1) (by simpa using hj); simpa [lenC] using this)
    unfold leftC at h1 ⊢
    rw [List.map_cons, List.sum_cons, h1]
    simpa [lenC] using h0
theorem leftC_pos {C : List RC} (h : leftC C = 0) (j : Nat) : lenC C j = 0 := by
  unfold lenC
  cases hC : C[j]? with
  | none => rfl
  | some x =>
    have hm := List.mem_of_getElem? hC
    have : ∀ {C : List RC}, leftC C = 0 → ∀ x ∈ C, x.1.length = 0 := by
      intro C
      induction C with
      | nil => intro _ x hx; cases hx
      | cons y r ih =>
        intro h x hx
        unfold leftC at h ih
        rw [List.map_cons, List.sum_cons] at h
        rcases List.mem_cons.1 hx with rfl | hx
        · omega
        · exact ih (by omega) x hx
    simpa using this h x hm

/-- Where entries lie tells nothing. -/
theorem ldo1_core (A : List LG) {x : PL} (h : x.2.length = x.1.len) (s t : Int) : ldo1 A (plOf (core x)) s t = ldo1 A x s t := by
  have e := isB_core h
  rw [plOf_core h] at e ⊢
  obtain ⟨⟨pg, pk, pa, plen, pcap, pht, phv, phc, pi, pt, pm, ph⟩, pl⟩ := x
  dsimp only at e ⊢
  unfold ldo1 doLG doSp
  dsimp only
  rw [e]
  rfl
theorem ldoC_eq (A : List LG) : ∀ (L : List PL) (s t : Int), (∀ x ∈ L, x.2.length = x.1.len) → ldoC A (L.map core) s t = ldo A L s t := by
  intro L
  induction L generalizing A with
  | nil => intros; rfl
  | cons x r ih =>
    intro s t h
    show ldoC (ldo1 A (plOf (core x)) s t) (r.map core) s t = ldo (ldo1 A x s t) r s t
    rw [ldo1_core A (h x (by simp))]
    exact ih _ s t (fun y hy => h y (List.mem_cons_of_mem _ hy))

end Go.Proofs.Ytdncdlbhgaehmaa

/- Package replay: bounds that steps keep. -/
namespace Go.Proofs.Ytdncdlbhgaehmaa
open Go.RowKit Go.Shelf
set_option linter.unusedVariables false

def fewFC (f : FC) : Prop := f.ps.length ≤ 6 ∧ ∀ p ∈ f.ps, p.l.length ≤ 8
/-- Of K records; what is done of them bounds the ledgers. -/
def okRC (K : Nat) (C : List RC) : Prop := ∀ x ∈ C, x.1.length ≤ K ∧ okA (60 * (K - x.1.length)) x.2 ∧ x.2.length ≤ 6 * (K - x.1.length) ∧ ∀ f ∈ x.1, fewFC f
theorem okRC.step {K : Nat} {C : List RC} (h : okRC K C) (i : Nat) : okRC K (stepRC C i) := by
  unfold stepRC
  split
  · rename_i f l A hC
    obtain ⟨h1, h2, h3, h4⟩ := h _ (List.mem_of_getElem? hC)
    dsimp only at h1 h2 h3 h4
    rw [List.length_cons] at h1 h2 h3
    obtain ⟨f1, f2⟩ := h4 f (by simp)
    intro x hx
    rcases List.mem_or_eq_of_mem_set hx with hx | rfl
    · exact h x hx
    · have e : ∀ p ∈ f.ps.map plOf, p.2.length ≤ 8 := fun p hp => by
        obtain ⟨q, hq, rfl⟩ := List.mem_map.1 hp
        exact f2 q hq
      have o := ldo_ok h2 f.s f.t e
      have n := ldo_len (f.ps.map plOf) A f.s f.t
      rw [List.length_map] at o n
      refine ⟨by dsimp only; omega, ?_, ?_, fun g hg => h4 g (List.mem_cons_of_mem _ hg)⟩
      · exact fun L hL => okLG_mono (o L hL) (by dsimp only; omega)
      · show (ldo A (f.ps.map plOf) f.s f.t).length ≤ 6 * (K - l.length)
        omega
  · exact h
theorem okRC.run {K : Nat} : ∀ (l : List Nat) {C : List RC}, okRC K C → okRC K (runC C l)
  | [], C, h => h
  | i :: l, C, h => okRC.run l (h.step i)

/-- What a shard comes to in the end. -/
def endC (x : RC) : List LG := x.1.foldl (fun A f => ldoC A f.ps f.s f.t) x.2
theorem step_endC (C : List RC) (i : Nat) : (stepRC C i).map endC = C.map endC := by
  unfold stepRC
  split
  · rename_i f l A hC
    obtain ⟨hi, e⟩ := List.getElem?_eq_some_iff.1 hC
    rw [List.map_set]
    refine (congrArg ((C.map endC).set i) (show _ = (C.map endC)[i]'(by simpa using hi) from ?_)).trans (List.set_getElem_self _)
    rw [List.getElem_map, e]
    rfl
  · rfl
theorem run_endC : ∀ (l : List Nat) (C : List RC), (runC C l).map endC = C.map endC
  | [], C => rfl
  | i :: l, C => (run_endC l (stepRC C i)).trans (step_endC C i)
/-- With nothing left, each ledger is what its shard comes to. -/
theorem end_of_left {C : List RC} (h : leftC C = 0) : C.map Prod.snd = C.map endC := by
  apply List.map_congr_left
  intro x hx
  obtain ⟨i, hi, rfl⟩ := List.getElem_of_mem hx
  have := leftC_pos h i
  unfold lenC at this
  rw [List.getElem?_eq_getElem hi] at this
  have h0 : C[i].1 = [] := List.length_eq_zero_iff.1 (by simpa using this)
  unfold endC
  rw [h0]; rfl
theorem orders_same {C : List RC} {x y : List Nat} (hx : leftC (runC C x) = 0) (hy : leftC (runC C y) = 0) : (runC C x).map Prod.snd = (runC C y).map Prod.snd := by
  rw [end_of_left hx, end_of_left hy, run_endC, run_endC]

end Go.Proofs.Ytdncdlbhgaehmaa

/- Package replay: plain data of New and of steps. -/
namespace Go.Proofs.Ytdncdlbhgaehmaa
open Go.RowKit Go.Shelf
set_option linter.unusedVariables false

/-- What New makes. -/
def newRC (K : Nat) (n : Int) (Fs : List FC) : List RC := (List.range K).map fun (i : Nat) => (splitC (i : Int) n Fs, [])
theorem newRC_len (K : Nat) (n : Int) (Fs : List FC) : (newRC K n Fs).length = K := by unfold newRC; rw [List.length_map, List.length_range]
theorem newRC_ok {K : Nat} {n : Int} {Fs : List FC} (h : Fs.length ≤ 30) (hf : ∀ f ∈ Fs, fewFC f) : okRC 30 (newRC K n Fs) := by
  intro x hx
  obtain ⟨i, -, rfl⟩ := List.mem_map.1 hx
  refine ⟨Nat.le_trans (splitC_len _ _ _) h, (fun L hL => by cases hL), Nat.zero_le _, fun f hm => ?_⟩
  obtain ⟨y, hy, rfl⟩ : ∃ y, y ∈ Fs ∧ ownF (i : Int) n y = f := List.mem_map.1 (List.mem_filter.1 hm).1
  obtain ⟨f1, f2⟩ := hf y hy
  exact ⟨Nat.le_trans (ownC_len _ _ _) f1, fun p hp => f2 p (List.mem_filter.1 hp).1⟩
theorem sum_le {l : List Nat} {c : Nat} (h : ∀ x ∈ l, x ≤ c) : l.sum ≤ l.length * c := by
  induction l with
  | nil => simp
  | cons a r ih =>
    rw [List.sum_cons, List.length_cons, Nat.succ_mul]
    have := h a (by simp)
    have := ih fun x hx => h x (List.mem_cons_of_mem _ hx)
    omega
theorem okRC.left {K : Nat} {C : List RC} (h : okRC K C) (hK : K ≤ 30) (hC : C.length ≤ 64) : leftC C < 1000000 := by
  have h1 := sum_le (l := C.map fun x => x.1.length) (c := 30) (fun x hx => by
    obtain ⟨y, hy, rfl⟩ := List.mem_map.1 hx
    have := (h y hy).1; omega)
  rw [List.length_map] at h1
  have h2 : C.length * 30 ≤ 64 * 30 := Nat.mul_le_mul_right _ hC
  unfold leftC; omega
theorem okRC.len {K : Nat} {C : List RC} (h : okRC K C) (hK : K ≤ 30) (i : Nat) : lenC C i < 1000000 := by
  unfold lenC
  cases hC : C[i]? with
  | none => simp
  | some x =>
    have := (h x (List.mem_of_getElem? hC)).1
    simp only [Option.map_some, Option.getD_some]; omega
theorem sum_set {l : List Nat} {i x : Nat} (hi : i < l.length) : (l.set i x).sum + l[i] = l.sum + x := by
  induction l generalizing i with
  | nil => exact absurd hi (by simp)
  | cons a r ih =>
    cases i with
    | zero => simp only [List.set_cons_zero, List.sum_cons, List.getElem_cons_zero]; omega
    | succ i =>
      have := ih (i := i) (by simpa using hi)
      simp only [List.set_cons_succ, List.sum_cons, List.getElem_cons_succ]; omega
/-- A step that is one leaves one less. -/
theorem left_step (C : List RC) (i : Nat) : (if 0 < lenC C i then leftC (stepRC C i) + 1 else leftC (stepRC C i)) = leftC C := by
  cases hx : C[i]? with
  | none =>
    have e : stepRC C i = C := by unfold stepRC; rw [hx]
    have e2 : lenC C i = 0 := by unfold lenC; rw [hx]; rfl
    rw [e, e2, if_neg (Nat.lt_irrefl 0)]
  | some x =>
    obtain ⟨xl, xA⟩ := x
    cases xl with
    | nil =>
      have e : stepRC C i = C := by unfold stepRC; rw [hx]
      have e2 : lenC C i = 0 := by unfold lenC; rw [hx]; rfl
      rw [e, e2, if_neg (Nat.lt_irrefl 0)]
    | cons f l =>
      have e : stepRC C i = C.set i (l, ldoC xA f.ps f.s f.t) := by unfold stepRC; rw [hx]
      have e2 : lenC C i = l.length + 1 := by unfold lenC; rw [hx]; rfl
      obtain ⟨hi, e3⟩ := List.getElem?_eq_some_iff.1 hx
      rw [e, e2, if_pos (Nat.succ_pos _)]
      unfold leftC
      rw [List.map_set]
      have h := sum_set (l := C.map fun x => x.1.length) (i := i) (x := l.length) (by simpa using hi)
      have e4 : (C.map fun x => x.1.length)[i]'(by simpa using hi) = l.length + 1 := by rw [List.getElem_map, e3]; rfl
      rw [e4] at h
      show ((C.map fun x => x.1.length).set i l.length).sum + 1 = _
      omega
theorem okRC.out {K : Nat} {C : List RC} (h : okRC K C) (hK : K ≤ 30) : ∀ x ∈ C, okA 1800 x.2 ∧ x.2.length ≤ 180 := fun x hx => by
  obtain ⟨-, h2, h3, -⟩ := h x hx
  exact ⟨fun L hL => okLG_mono (h2 L hL) (by omega), by omega⟩

end Go.Proofs.Ytdncdlbhgaehmaa

/- Package replay: Left, Step. -/
namespace Go.Proofs.Ytdncdlbhgaehmaa
open Go.RowKit Go.Shelf
set_option linter.unusedVariables false
attribute [local go_sem] Oper.semAt_some wide_fn wide_round_fn

theorem sum_take {l : List Nat} {k : Nat} (hk : k < l.length) : (l.take (k + 1)).sum = (l.take k).sum + l[k] := by
  rw [List.take_succ_eq_append_getElem hk, List.sum_append]; simp
theorem sum_take_le (l : List Nat) (k : Nat) : (l.take k).sum ≤ l.sum := by
  have := congrArg List.sum (List.take_append_drop k l)
  rw [List.sum_append] at this
  omega
set_option maxRecDepth 100000 in
set_option maxHeartbeats 1000000 in
theorem left_any {w2 W : World} {C R r : Nat} {v : Value} {T : Nat → Nat → Prop} {Rs : List RS} (h : RpAt w2 C R r v T Rs W) (hn : Rs.length ≤ 64) (hs : leftC (Rs.map rcore) < 1000000) :
    Calls Try.prog 22 #[.pointer (some ⟨r, 0, none⟩)] W fun e w' => e = .returned (.int .i64 ((leftC (Rs.map rcore) : Nat) : Int)) ∧ Below W.heap.size W w' := by
  rw [leftC_core rfl] at hs ⊢
  obtain ⟨X, hX⟩ : ∃ X, X = Rs.map fun x => x.L.length := ⟨_, rfl⟩
  have hXl : X.length = Rs.length := by rw [hX, List.length_map]
  rw [← hX] at hs ⊢
  obtain ⟨c0, c1⟩ := h.box_at
  have hrl := heap_lt h.box
  have hRl := heap_lt h.row
  have HR := Lib.hid (fun (i : Nat) (hi : i < X.length) => (show ∃ a c, W.cell? ⟨R, i, none⟩ = some (.slice a X[i] c) from ⟨Rs[i].a, Rs[i].c, by rw [h.row_at (by omega)]; subst hX; simp⟩))
  rw [← hXl] at c0 hn
  clear h hXl hX c1
  go_enter Try.func22, Try.ntmps22
  go_wp2
  go_loopw [3, 5, 11] (fun s3 s5 s11 wr => ∃ k : Nat, k ≤ X.length ∧ s3 = .int .i64 (((X.take k).sum : Nat) : Int) ∧ s11 = .int .i64 (k : Int) ∧ (∃ u, u = s5) ∧ Below W.heap.size W wr) (fun _ _ s11 _ => X.length - (intOf s11).toNat)
  case atStart => exact ⟨0, Nat.zero_le _, rfl, rfl, ⟨_, rfl⟩, Below.refl _ _⟩
  case round =>
  obtain ⟨k, hk, rfl, rfl, ⟨u, rfl⟩, hB⟩ := hrel
  by_cases hlt : k < X.length
  · have hlt' : (k : Int) < (X.length : Int) := by omega
    have hw9 : IntKind.i64.wrap ((k : Int) + 1) = ((k + 1 : Nat) : Int) := (IntWalk.i64_in _ (by omega)).trans (by push_cast; rfl)
    obtain ⟨a, c, hc⟩ := HR.out k hlt
    have hc' := (hB.cell (p := ⟨R, k, none⟩) hRl).trans hc
    have hST := sum_take hlt
    have hSL := sum_take_le X (k + 1)
    have hw3 : IntKind.i64.wrap (((X.take k).sum : Int) + (X[k] : Int)) = (((X.take (k + 1)).sum : Nat) : Int) := (IntWalk.i64_in _ (by omega)).trans (by rw [hST]; push_cast; rfl)
    clear hST hSL hc
    generalize X[k] = xk at *
    go_wp2
    go_roundw
    case rel => exact ⟨k + 1, by omega, by go_num, by go_num, ⟨_, rfl⟩, hB⟩
    case measure => simp [intOf]; omega
  · have hOk : k = X.length := by omega
    subst k
    have hge : ¬ (X.length : Int) < (X.length : Int) := by omega
    rw [List.take_length]
    go_wp2
    go_ret
    exact ⟨rfl, hB⟩

set_option maxRecDepth 100000 in
set_option maxHeartbeats 1000000 in
theorem step_no {w2 W : World} {C R r : Nat} {v : Value} {T : Nat → Nat → Prop} {Rs : List RS} (h : RpAt w2 C R r v T Rs W) (hn : Rs.length ≤ 64) (i : Int) (hi : i < 0 ∨ (Rs.length : Int) ≤ i ∨ lenC (Rs.map rcore) i.toNat = 0) :
    Calls Try.prog 24 #[.pointer (some ⟨r, 0, none⟩), .int .i64 i] W fun e w' => e = .returned (.bool false) ∧ Below W.heap.size W w' := by
  obtain ⟨c0, c1⟩ := h.box_at
  by_cases h0 : i < 0
  · clear h hi c0 c1
    go_enter Try.func24, Try.ntmps24
    go_wp2
    go_ret
    exact ⟨rfl, Below.refl _ _⟩
  · by_cases h1 : (Rs.length : Int) ≤ i
    · clear h hi c1
      generalize Rs.length = n at *
      go_enter Try.func24, Try.ntmps24
      go_wp2
      go_ret
      exact ⟨rfl, Below.refl _ _⟩
    · obtain ⟨k, rfl⟩ : ∃ k : Nat, i = (k : Int) := ⟨i.toNat, by omega⟩
      have hk : k < Rs.length := by omega
      have h2 : lenC (Rs.map rcore) k = 0 := by
        rcases hi with hi | hi | hi
        · omega
        · omega
        · simpa using hi
      have h3 : Rs[k].L.length = 0 := (lenC_core rfl hk).trans h2
      have c2 := h.row_at hk
      unfold RS.val at c2
      rw [h3] at c2
      clear h hi c1 h2 h3
      generalize Rs[k].a = sa at *
      generalize Rs[k].c = sc at *
      generalize Rs.length = n at *
      go_enter Try.func24, Try.ntmps24
      go_wp2
      go_ret
      exact ⟨rfl, Below.refl _ _⟩

end Go.Proofs.Ytdncdlbhgaehmaa

/- Package replay: Step that is one. -/
namespace Go.Proofs.Ytdncdlbhgaehmaa
open Go.RowKit Go.Shelf
set_option linter.unusedVariables false
attribute [local go_sem] Oper.semAt_some wide_fn wide_round_fn

theorem fNew_tail {C : Nat} {W : World} {b off : Nat} {len : Nat} {f : FV} {l : List FV} (h : FNew C W (some ⟨b, off, none⟩) len (f :: l)) : FNew C W (some ⟨b, off + 4, none⟩) l.length l := by
  obtain ⟨h1, h2, h3, h4, h5⟩ := h
  rw [List.length_cons] at h1
  have hb : C ≤ b := h4 b ⟨b, off, rfl, by omega, rfl⟩
  refine ⟨rfl, by omega, ⟨?_, ?_, fun h0 => ?_⟩, fun k hk => ?_, fun x hx => h5 x (List.mem_cons_of_mem _ hx)⟩
  · have := h3.1
    have e : fvCells (f :: l) = f.arr.toList ++ fvCells l := by simp [fvCells]
    rw [e, List.length_append] at this
    have e2 : f.arr.toList.length = 4 := rfl
    omega
  · have := h3.2.1; omega
  · obtain ⟨b', off', e, hlt, hc⟩ := h3.2.2 (by omega)
    cases e
    refine ⟨b, off + 4, rfl, hlt, fun j hj => ?_⟩
    have e : fvCells (f :: l) = f.arr.toList ++ fvCells l := by simp [fvCells]
    have := hc (4 + j) (by rw [e, List.length_append]; show 4 + j < 4 + _; omega)
    rw [show off + 4 + j = off + (4 + j) by omega, this]
    simp only [e]
    rw [List.getElem_append_right (by show 4 ≤ 4 + j; omega)]
    congr 2
    show 4 + j - 4 = j
    omega
  · obtain ⟨b', off', e, h0, rfl⟩ := hk
    cases e; exact hb
theorem fNew_cut {C : Nat} {W : World} {b off len c : Nat} {f : FV} {l : List FV} (h : FNew C W (some ⟨b, off, none⟩) len (f :: l)) (hc : l.length + 1 ≤ c) : FNew C W (if c = 1 then some ⟨b, off, none⟩ else some ⟨b, off + 4, none⟩) l.length l := by
  by_cases h1 : c = 1
  · rw [if_pos h1]
    obtain rfl : l = [] := List.length_eq_zero_iff.1 (by omega)
    exact ⟨rfl, by decide, RowV.nil _ _ _, fun k hk => (by obtain ⟨b', off', e, h0, rfl⟩ := hk; exact absurd h0 (by simp)), fun x hx => by cases hx⟩
  · rw [if_neg h1]; exact fNew_tail h
/-- A shard's row is cut. -/
theorem RpAt.cutRow {w2 W : World} {C R r : Nat} {v : Value} {T : Nat → Nat → Prop} {Rs : List RS} (h : RpAt w2 C R r v T Rs W) {i : Nat} (hi : i < Rs.length) (x' : RS) (hx : FNew C w2 x'.a x'.L.length x'.L ∧ x'.L.length ≤ x'.c ∧ ∀ f ∈ x'.L, CapL f.L) (he : x'.e = Rs[i].e) (hA : x'.A = Rs[i].A) :
    RpAt w2 C R r v T (Rs.set i x') (W.setCell ⟨R, i, none⟩ x'.val) := by
  have hF := FrameT.setCell W R i x'.val
  have hlo := h.lo
  have hRs : (Rs.set i x').map RS.led = Rs.map RS.led := by
    rw [List.map_set]
    exact (congrArg ((Rs.map RS.led).set i) (show _ = (Rs.map RS.led)[i]'(by simpa using hi) by simp [RS.led, he])).trans (List.set_getElem_self _)
  have hRl := h.row
  refine ⟨?_, ?_, ?_, hlo, ?_, fun x hm => ?_, fun j hj => ?_, fun j hj => ?_, fun j l hj hl => ?_⟩
  · rw [List.length_set]; exact hF.get h.box (by show ¬ r = R; omega)
  · have e := Go.Joins.block_setCell h.row x'.val (i := i)
    rw [List.map_set]
    rw [e]
    congr 2
    rw [List.setIfInBounds_toArray]
  · rw [hRs, List.length_set]
    exact ownL_frame h.led hF (fun k hk e => by have := (ownBlockL_lt h.led hk).2.1; omega)
  · exact ⟨hF.os.trans h.frm.os, hF.tape.trans h.frm.tape, hF.output.trans h.frm.output, Nat.le_trans h.frm.size hF.size, fun k hk hT => (hF.block k (Nat.lt_of_lt_of_le hk h.frm.size) (by show ¬ k = R; omega)).trans (h.frm.block k hk hT)⟩
  · rcases List.mem_or_eq_of_mem_set hm with hm | rfl
    · exact h.fnd x hm
    · exact hx
  · rw [List.length_set] at hj
    have hne : NoEnt W (fun k => k = R) := fun a l hr k hk e => by
      subst e
      obtain ⟨b, off, rfl, h0, rfl⟩ := hk
      obtain ⟨b', off', e, hlt, hc⟩ := hr.2.2 h0
      cases e
      cases l with
      | nil => exact absurd h0 (by simp)
      | cons y l =>
        have h1 := hc 0 (by simp [entryCells, EntryC.cells])
        rw [Lib.cell_of_heap hRl] at h1
        simp [entryCells, EntryC.cells] at h1
    have hL := (h.lgs j hj).frame hF (fun k hk e => by have := (h.tlo j hj k hk).1; omega) hne
    by_cases e : j = i
    · subst e
      simp only [List.getElem_set_self, he, hA]; exact hL
    · simp only [List.getElem_set_ne (Ne.symm e)]; exact hL
  · rw [List.length_set] at hj; exact h.tlo j hj
  · rw [List.length_set] at hj hl; exact h.tap j l hj hl

theorem step_core {w : World} {C : Nat} {Rs : List RS} {i : Nat} (hi : i < Rs.length) {f : FV} {l : List FV} (hL : Rs[i].L = f :: l) (hf : PNew C w f.a f.len f.L) (x' y' : RS) (h : rcore y' = (l.map fcore, ldo Rs[i].A f.L f.s f.t)) : ((Rs.set i x').set i y').map rcore = stepRC (Rs.map rcore) i := by
  have e : (Rs.map rcore)[i]? = some (fcore f :: l.map fcore, Rs[i].A) := by simp [hi, rcore, hL]
  unfold stepRC
  rw [e, List.set_set, List.map_set, h]
  dsimp only [fcore]
  rw [ldoC_eq _ _ _ _ (fun x hx => (hf.1.2.2.2 x hx).1)]
set_option maxRecDepth 100000 in
set_option maxHeartbeats 8000000 in
theorem step_yes {w2 W : World} {C R r N c : Nat} {v : Value} {T : Nat → Nat → Prop} {Rs : List RS} (h : RpAt w2 C R r v T Rs W) (hn : Rs.length ≤ 64) {i : Nat} (hi : i < Rs.length) {f : FV} {l : List FV} (hL : Rs[i].L = f :: l) (hok : okA N Rs[i].A) (hc : ∀ x ∈ f.L, x.2.length ≤ c) (hN : N + f.len * (c + 2) ≤ 100000) (hA : Rs[i].A.length + f.len < 100000) :
    Calls Try.prog 24 #[.pointer (some ⟨r, 0, none⟩), .int .i64 (i : Int)] W fun e w' => e = .returned (.bool true) ∧ ∃ Rs' T', RpAt w2 C R r v T' Rs' w' ∧ Rs'.map rcore = stepRC (Rs.map rcore) i ∧ FrameT (ownRp R T Rs.length) W w' ∧ ∀ j, j < Rs.length → ∀ k, T' j k → T j k ∨ W.heap.size ≤ k := by
  obtain ⟨c0, c1⟩ := h.box_at
  have c2 := h.row_at hi
  have hrl := heap_lt h.box
  have hRl := heap_lt h.row
  obtain ⟨hfn, hcap, hCL⟩ := h.found (List.getElem_mem hi)
  obtain ⟨lb, lo, lc, hv, hlc, hlb, c3⟩ := h.led_at hi
  obtain ⟨b, off, hba, hbl, d0, d1, d2, d3⟩ : ∃ b off, Rs[i].a = some ⟨b, off, none⟩ ∧ b < W.heap.size ∧ W.cell? ⟨b, off, none⟩ = some (.int .i64 f.q) ∧ W.cell? ⟨b, off + 1, none⟩ = some (.slice f.a f.len f.cap) ∧ W.cell? ⟨b, off + 2, none⟩ = some (.int .i64 f.s) ∧ W.cell? ⟨b, off + 3, none⟩ = some (.int .i64 f.t) := by
    obtain ⟨b, off, e, hb, hx⟩ := hfn.2.2.1.2.2 (by rw [hL]; simp)
    have := fv_at4 hb (Below.refl _ _) hx (k := 0) (by rw [hL]; simp)
    simp only [hL, List.getElem_cons_zero, Nat.zero_mul, Nat.add_zero] at this
    exact ⟨b, off, e, hb, this⟩
  have hlen : Rs[i].L.length = l.length + 1 := by rw [hL]; rfl
  have h6 : l.length < 1000000 := by have := hfn.2.1; omega
  have HH := Lib.hid h
  have HB1 := Lib.hid (bel_alloc (Below.refl W.heap.size W) (.cells #[.int .i64 f.q, .slice f.a f.len f.cap, .int .i64 f.s, .int .i64 f.t] 36))
  have hX := World.alloc_heap_new W (.cells #[.int .i64 f.q, .slice f.a f.len f.cap, .int .i64 f.s, .int .i64 f.t] 36)
  have HX := Lib.hid hX
  obtain ⟨x0, x1, x2, x3⟩ := cells4 hX
  unfold RS.val at c2
  rw [hba, hlen] at c2
  rw [hlen] at hcap
  subst hv
  have HPf := Lib.hid (hfn.2.2.2.2 f (by rw [hL]; simp))
  have HCf := Lib.hid (hCL f (by rw [hL]; simp))
  have HFN := Lib.hid (show FNew C w2 (some ⟨b, off, none⟩) (l.length + 1) (f :: l) from by
    have := (h.fnd Rs[i] (List.getElem_mem hi)).1
    rwa [hba, hlen, hL] at this)
  have HCT := Lib.hid (show ∀ x ∈ l, CapL x.L from fun x hx => hCL x (by rw [hL]; exact List.mem_cons_of_mem _ hx))
  have HI := Lib.hid hi
  have HLo := Lib.hid h.lo
  have HCo := Lib.hid hc
  have HOK := Lib.hid hok
  have HL := Lib.hid hL
  clear h hfn hX hCL hc hok hL
  generalize hsc : Rs[i].c = sc at *
  have HSC := Lib.hid hsc
  clear hsc
  have FR := fun (p : Addr) (x : Value) (hp : p.block < W.heap.size) (hx : W.cell? p = some x) => (HB1.out.cell (p := p) hp).trans hx
  have e0 := FR _ _ hrl c0
  have e1 := FR _ _ hrl c1
  have e2 := FR _ _ hRl c2
  have e3 := FR _ _ hlb c3
  clear FR
  obtain ⟨fq, fa, flen, fcap, fL, fs, ft⟩ := f
  dsimp only at *
  have z0 : ¬ (i : Int) < 0 := by omega
  have z1 : ¬ (Rs.length : Int) ≤ (i : Int) := by omega
  have z2 : ¬ ((l.length + 1 : Nat) : Int) = 0 := by omega
  have z3 : (0 : Int) < ((l.length + 1 : Nat) : Int) := by omega
  have z5 : (1 : Int) ≤ (l.length : Int) + 1 := by omega
  have z4 : (i : Int) < (Rs.length : Int) := by omega
  go_enter Try.func24, Try.ntmps24
  have q0 : (W.alloc (.cells #[.int .i64 fq, .slice fa flen fcap, .int .i64 fs, .int .i64 ft] 36)).drew.cell? ⟨r, 0, none⟩ = _ := e0
  have q2 : (W.alloc (.cells #[.int .i64 fq, .slice fa flen fcap, .int .i64 fs, .int .i64 ft] 36)).drew.cell? ⟨R, i, none⟩ = _ := e2
  have hf2 : (W.alloc (.cells #[.int .i64 fq, .slice fa flen fcap, .int .i64 fs, .int .i64 ft] 36)).drew.frozen? ⟨R, i, none⟩ = false := frozen_of_row _ R i _ _ ((HB1.out.block _ hRl).trans HH.out.row)
  go_wp2
  go_region_law (fail)
  all_goals
    have hS0 := World.size_setCell W ⟨R, i, none⟩ (.slice (if sc = 1 then some ⟨b, off, none⟩ else some ⟨b, off + 4, none⟩) l.length (sc - 1))
    have hQ0 := HH.out.cutRow HI.out ⟨if sc = 1 then some ⟨b, off, none⟩ else some ⟨b, off + 4, none⟩, sc - 1, l, Rs[i].e, Rs[i].A⟩ ⟨fNew_cut HFN.out hcap, (by show l.length ≤ sc - 1; omega), HCT.out⟩ rfl rfl
    have hF0 := FrameT.setCell W R i (.slice (if sc = 1 then some ⟨b, off, none⟩ else some ⟨b, off + 4, none⟩) l.length (sc - 1))
    have hbx := World.alloc_heap_new (W.setCell ⟨R, i, none⟩ (.slice (if sc = 1 then some ⟨b, off, none⟩ else some ⟨b, off + 4, none⟩) l.length (sc - 1))) (.cells #[.int .i64 fq, .slice fa flen fcap, .int .i64 fs, .int .i64 ft] 36)
    rw [hS0] at hbx
    have hB4 : Below (W.setCell ⟨R, i, none⟩ (.slice (if sc = 1 then some ⟨b, off, none⟩ else some ⟨b, off + 4, none⟩) l.length (sc - 1))).heap.size (W.setCell ⟨R, i, none⟩ (.slice (if sc = 1 then some ⟨b, off, none⟩ else some ⟨b, off + 4, none⟩) l.length (sc - 1))) ((W.setCell ⟨R, i, none⟩ (.slice (if sc = 1 then some ⟨b, off, none⟩ else some ⟨b, off + 4, none⟩) l.length (sc - 1))).alloc (.cells #[.int .i64 fq, .slice fa flen fcap, .int .i64 fs, .int .i64 ft] 36)).drew := (bel_alloc (Below.refl _ _) _).drew
    have hQ4 := hQ0.below hB4
    have hF4 := hF0.trans (FrameT.below (T := fun k => k = R) hB4)
    have hb4 : ((W.setCell ⟨R, i, none⟩ (.slice (if sc = 1 then some ⟨b, off, none⟩ else some ⟨b, off + 4, none⟩) l.length (sc - 1))).alloc (.cells #[.int .i64 fq, .slice fa flen fcap, .int .i64 fs, .int .i64 ft] 36)).drew.heap[W.heap.size]? = _ := hbx
    clear hS0 hQ0 hF0 hbx hB4 q0 q2 hf2 e0 e1 e2 e3 x0 x1 x2 x3
    generalize ((W.setCell ⟨R, i, none⟩ (.slice (if sc = 1 then some ⟨b, off, none⟩ else some ⟨b, off + 4, none⟩) l.length (sc - 1))).alloc (.cells #[.int .i64 fq, .slice fa flen fcap, .int .i64 fs, .int .i64 ft] 36)).drew = wq at *
    generalize (if sc = 1 then some (⟨b, off, none⟩ : Addr) else some ⟨b, off + 4, none⟩) = a' at *
    have HQ := Lib.hid hQ4
    have HF := Lib.hid hF4
    have hi' : i < (Rs.set i ⟨a', sc - 1, l, Rs[i].e, Rs[i].A⟩).length := by rw [List.length_set]; exact HI.out
    obtain ⟨-, g1⟩ := hQ4.box_at
    obtain ⟨lb', lo', lc', hv', -, -, g3⟩ := hQ4.led_at hi'
    injection hv' with e1 e2 e3
    injection e1 with e1
    injection e1 with e4 e5 _
    subst e4 e5
    clear e2 e3
    simp only [List.getElem_set_self, RS.led] at g3
    obtain ⟨x0, x1, x2, x3⟩ := cells4 hb4
    have y1 : wq.drew.cell? ⟨W.heap.size, 1, none⟩ = _ := x1
    have y2 : wq.drew.cell? ⟨W.heap.size, 2, none⟩ = _ := x2
    have y3 : wq.drew.cell? ⟨W.heap.size, 3, none⟩ = _ := x3
    have k1 : wq.drew.cell? ⟨r, 1, none⟩ = _ := g1
    have k3 : wq.drew.cell? ⟨lb, lo + i, none⟩ = _ := g3
    have hP : HasP wq.drew fa flen fL := ((HPf.out.frame hF4 (fun k hk _ e => by have := HLo.out.1; omega)).1).below (Below.refl _ _).drew
    have GD := Lib.hid (rDo (hQ4.below (Below.refl _ _).drew) hi' (N := N) (c := c) (by rw [List.getElem_set_self]; exact HOK.out) fa flen fcap fL hP (fun x hx => ⟨HCo.out x hx, HCf.out x hx⟩) hN (by rw [List.getElem_set_self]; exact hA) fs ft)
    rw [List.getElem_set_self] at GD
    clear hQ4 hF4 hP hb4
    go_wp2
    go_region_with (go_at_call 27; (with_reducible refine GD.out.mono ?_); rintro e w5 ⟨⟨u, rfl⟩, T', hR', hF', hT'⟩)
    all_goals
      go_wp2
      go_ret
      refine ⟨rfl, _, T', hR', step_core HI.out HL.out HPf.out _ _ (by simp [rcore]; rfl), ((HF.out.mono fun k hk => .inl hk).trans (FrameT.below (Below.refl wq.heap.size wq).drew)).trans (by rw [List.length_set] at hF'; exact hF'), fun j hj k hk => ?_⟩
      rcases hT' j (by rw [List.length_set]; exact hj) k hk with h | h
      · exact .inl h
      · exact .inr (Nat.le_trans HF.out.size h)

end Go.Proofs.Ytdncdlbhgaehmaa
