/- The contract of live.Records: how many unlike places there are. -/
import Derived.Test.YtpdpdohkhiplpaaLiveIter
import Derived.Test.YtpdpdohkhiplpaaMapEntry
import Derived.RegionIn
import Derived.Maps.OwnSet
namespace Go.Proofs.Ytpdpdohkhiplpaa
open Go.RowKit Go.Shelf
open Go.Maps (Keyed Tidy tidy_empty has size_put has_put_same has_put_other)
set_option linter.unusedVariables false
attribute [local go_sem] Oper.semAt_some wide_fn wide_round_fn

/-- Do two spots lie at the same place? -/
def atPlace (f h : SpotC) : Bool := f.s == h.s && f.p == h.p
def recsR : List SpotC → Nat
  | [] => 0
  | f :: r => recsR r + if r.any (atPlace f) then 0 else 1
/-- How many unlike places. -/
def recs (l : List SpotC) : Nat := recsR l.reverse
theorem recs_snoc (l : List SpotC) (f : SpotC) : recs (l ++ [f]) = recs l + if l.any (atPlace f) then 0 else 1 := by
  unfold recs
  rw [List.reverse_append, List.reverse_singleton, List.singleton_append, recsR, List.any_reverse]
theorem recs_le (l : List SpotC) : recs l ≤ l.length := by
  have h : ∀ r : List SpotC, recsR r ≤ r.length := fun r => by
    induction r with
    | nil => simp [recsR]
    | cons f r ih => simp only [recsR, List.length_cons]; split <;> omega
  have := h l.reverse
  rwa [List.length_reverse] at this

theorem lawPlace : Go.WideMaps.KeyLaw Try.prog 31 :=
  deep_law_laid (m := 3) (by kernel_rfl) (by decide) (by decide +kernel) (by kernel_rfl) (by kernel_rfl)
theorem keyPlace (a b : Int) (ha : (Lit.int .i64 a).wf = true) (hb : (Lit.int .i64 b).wf = true) : keyOf Try.prog 31 (.agg #[.int .i64 a, .int .i64 b]) = some (.string (keyBytes [.int .i64 a, .int .i64 b])) := by
  unfold keyOf
  have h1 : Try.prog.keyType 31 = true := by kernel_rfl
  have h2 : Try.prog.cellsOf 31 = 2 := by kernel_rfl
  have h3 : Try.prog.cellsOf 3 = 1 := by kernel_rfl
  obtain ⟨m, hm⟩ : ∃ m, Try.prog.types.size = m + 1 := ⟨Try.prog.types.size - 1, by decide +kernel⟩
  simp only [Try.underlying31]
  rw [if_pos (by simp [h1, Value.formed, Try.underlying31, h2]), hm]
  unfold Program.keyLits
  simp only [Try.underlying31, Value.cells]
  rw [if_pos ⟨by rw [h2]; rfl, by simp⟩]
  simp [h3, Program.keyLits, Try.underlying3, ha, hb]

def kp (f : SpotC) : Lit := .string (keyBytes [.int .i64 f.s, .int .i64 f.p])
def wfP (f : SpotC) : Prop := (Lit.int .i64 f.s).wf = true ∧ (Lit.int .i64 f.p).wf = true
theorem kp_inj {f h : SpotC} (hf : wfP f) (hh : wfP h) (e : kp f = kp h) : atPlace f h = true := by
  have := lawPlace.inj (keyPlace f.s f.p hf.1 hf.2) (by rw [keyPlace h.s h.p hh.1 hh.2]; exact congrArg some e.symm)
  simp only [Value.agg.injEq, Array.mk.injEq, List.cons.injEq, Value.int.injEq, true_and, and_true] at this
  simp [atPlace, this.1, this.2]
theorem kp_at {f h : SpotC} (e : atPlace f h = true) : kp f = kp h := by
  simp only [atPlace, Bool.and_eq_true, beq_iff_eq] at e
  simp [kp, e.1, e.2]
/-- A map whose keys are the places of l. -/
def Places (l : List SpotC) (D : DataW Unit) : Prop := Tidy D ∧ Go.Maps.size D = recs l ∧ (∀ f, wfP f → has D (kp f) = l.any (atPlace f)) ∧ ∀ kl c, D.atKey kl (.lit (.int .i64 0)) = .lit (.int .i64 c) → 0 ≤ c ∧ c ≤ l.length
theorem places_nil : Places [] (.map []) := ⟨tidy_empty, rfl, fun _ _ => rfl, fun kl c h => by
  have : (0 : Int) = c := by simpa [DataW.atKey] using h
  simp; omega⟩
theorem places_put {l : List SpotC} {D : DataW Unit} (h : Places l D) {f : SpotC} (hf : wfP f) (c : Int) (hc : 0 ≤ c ∧ c ≤ l.length) : Places (l ++ [f]) (D.put (kp f) (.lit (.int .i64 (c + 1)))) := by
  have hk : WideAt.IsKeyLit (kp f) := (Keyed.of_law lawPlace).key (keyPlace f.s f.p hf.1 hf.2)
  refine ⟨h.1.put hk _, ?_, fun h' hh' => ?_, fun kl c' hc' => ?_⟩
  · rw [size_put h.1, h.2.2.1 f hf, h.2.1, recs_snoc]
    split <;> rfl
  · rw [List.any_append]
    by_cases e : kp h' = kp f
    · rw [e, has_put_same h.1.isMap hk]
      simp [kp_inj hh' hf e]
    · rw [has_put_other e, h.2.2.1 h' hh']
      have : atPlace h' f = false := by
        rw [Bool.eq_false_iff]; exact fun h2 => e (kp_at h2)
      simp [this]
  · rw [List.length_append]
    by_cases e : kl = kp f
    · rw [e, Go.Maps.atKey_put_same h.1.isMap hk] at hc'
      have : c + 1 = c' := by simpa using hc'
      simp; omega
    · rw [Go.Maps.atKey_put_other e] at hc'
      have := h.2.2.2 kl c' hc'
      simp; omega

/-- The map bm, which the box bx names, holds the places of l; nothing that lay in w has turned. -/
def placesI (w : World) (bm bx : Nat) (l : List SpotC) (W : World) : Prop :=
  ∃ D, W.ownsMap Try.prog 31 (plainElem Try.prog 3) bm l.length D ∧ Places l D ∧ Boxed W bx 64 (.map (some bm)) ∧ Below w.heap.size w W
theorem placesI_stab {w : World} {B bm bx : Nat} {l : List SpotC} (hb : bm < B) (hw : w.heap.size ≤ B) : Stab B (fun _ => False) (placesI w bm bx l) :=
  Stab.ex fun D => Stab.and (fun W W' ⟨es, clock, h1, h2⟩ hm => ⟨es, clock, hm.block _ _ h1 id (.inl hb), h2⟩) ((Stab.pure _).and ((Stab.boxed id).and (Stab.below (Nat.le_refl _) hw (fun _ h => h.elim))))

set_option maxRecDepth 100000 in
set_option maxHeartbeats 2000000 in
theorem records_any (a : Option Addr) (len cap : Nat) (l : List SpotC) (z : Int) (hl : l.length = len) (hm : len < 1000000) (hw : ∀ f ∈ l, wfP f) (w : World) (hrow : RowV w a len 4 (spotCells l)) :
    Gives Try.prog 17 #[.slice a len cap, .int .i64 z] w (.int .i64 (recs (inL l z))) := by
  refine (callsIn_wide (n := 9)).1 ?_
  refine callsIn_of_wp_marks Try.func17 rfl trivial ?_ rfl
  simp only [Try.ntmps17, List.size_toArray, List.length_cons, List.length_nil, Nat.reduceAdd, Nat.reduceSub, Array.replicate_succ, Array.replicate_zero, List.push_toArray, List.append_toArray, List.nil_append, List.cons_append]
  have hmm := @run_makeMap Try.prog
  have bO := Boxed.new (w.alloc (.map #[] 0)) 64 (.map (some w.heap.size))
  have hB0 : Below w.heap.size w ((w.alloc (.map #[] 0)).alloc (.cells #[.map (some w.heap.size)] 64)) := bel_alloc (bel_alloc (Below.refl _ _) _) _
  have hmap := (World.ownsMap_made (H := Unit) w Try.prog 31 (plainElem Try.prog 3)).alloc (.cells #[.map (some w.heap.size)] 64)
  have M := Lib.hid (in_makes a len cap l z hl hm _ (hrow.below hB0))
  have hlt : ∀ k, inBlk a len k → k < w.heap.size := fun k hk => inBlk_lt hrow hk
  have hwI : ∀ f ∈ inL l z, wfP f := fun f hf => hw f (List.mem_filter.1 hf).1
  clear hrow
  gi_wp2_with (gi_at_call 27; refine (callsIn_wide.2 M.out).mono ?_; rintro e w1 ⟨lb, rfl, hB1, hI1⟩)
  rw [World.size_alloc] at bO
  rw [World.size_alloc, World.size_alloc] at hB1 hI1
  have hsz := hB1.size
  simp only [World.size_alloc] at hsz
  have bO1 := boxed_below bO hB1 (by omega)
  have hmap1 : w1.ownsMap Try.prog 31 (plainElem Try.prog 3) w.heap.size 0 (.map [] : DataW Unit) := by
    obtain ⟨es, clock, h1, h2⟩ := hmap
    exact ⟨es, clock, (hB1.block _ (by omega)).trans h1, h2⟩
  replace hB1 := hB0.trans (hB1.mono (by omega))
  refine range_outer rfl (enters_of Try.func29 (by kernel_rfl) rfl) hI1 (fun _ => rfl) (fun k hk => hk.elim (fun h => Nat.lt_of_lt_of_le (hlt k h) hB1.size) (fun h => h.2)) (fun _ h => h.elim)
    (fun pre W => placesI w w.heap.size (w.heap.size + 1) pre W) (fun _ _ _ => False) (fun _ => placesI_stab (by omega) hB1.size) (fun _ _ => Stab.pure _) ⟨_, hmap1, places_nil, bO1, hB1⟩ ?hr ?hd (fun _ _ _ _ _ _ h => h.elim)
  case hr =>
    rintro L pre x suf W hx hl' hi1 hrec
    dsimp only [SpotC.val]
    have hpl : pre.length < 1000000 := by have h1 := congrArg List.length hx; have h2 := cnt_le l z; unfold cnt at h2; simp at h1; omega
    have hwx : wfP x := hwI x (by rw [hx]; simp)
    gi_wp2
    refine rdThen_mk (fun W' => placesI w w.heap.size (w.heap.size + 1) pre W' ∧ W'.heap[W.heap.size]? = some (.cells #[.int .i64 x.g, .int .i64 x.i, .int .i64 x.s, .int .i64 x.p] 33 (0, 0)))
      ((placesI_stab (by omega) hB1.size).and (Stab.block id (.inr rfl))) ⟨placesI_stab (B := w1.heap.size) (by omega) hB1.size _ _ hi1 (Moves.alloc _ _), World.alloc_heap_new W _⟩ ((Rd.refl _ _ _).alloc _) ?_
    clear hi1 hrec
    obtain ⟨X, hX⟩ : ∃ X, X = W.heap.size := ⟨_, rfl⟩
    rw [← hX]
    clear hX W
    rintro W ⟨⟨D, hmp, hpl2, hv, hB⟩, hblk⟩ hrec
    have hc := hv.cell
    have d2 : W.cell? ⟨X, 2, none⟩ = some (.int .i64 x.s) := cell_of_row W X 2 _ _ _ hblk
    have d3 : W.cell? ⟨X, 3, none⟩ = some (.int .i64 x.p) := cell_of_row W X 3 _ _ _ hblk
    obtain ⟨c, v0, st, w5, e1, hat, e2, e3, hg5, hes⟩ := entry_facts (w := W.drew) lawPlace Try.underlying64 Try.underlying3 (fun u => zeroInt u) hmp.drew (by unfold maxLen; omega) (keyPlace x.s x.p hwx.1 hwx.2)
    have hcb := hpl2.2.2.2 _ c hat
    obtain ⟨w6, e4, hmp6, hg6⟩ := hes (c + 1) (wf_i64 (by omega))
    have HP := Lib.hid (places_put hpl2 hwx c hcb)
    have e4' : (Instr.entryStore 64 (.map (some w.heap.size)) (.int .i64 st) (.int .i64 (IntKind.i64.wrap (c + 1)))).run Try.prog w5 = .ok () w6 := by rw [show IntKind.i64.wrap (c + 1) = c + 1 from IntWalk.i64_in _ (by omega)]; exact e4
    have e2' : (Instr.mapEntry 64 (.map (some w.heap.size)) (.agg #[.int .i64 x.s, .int .i64 x.p])).run Try.prog W.drew = .ok (.tuple #[v0, .int .i64 st]) w5 := e2
    have H6 := Lib.hid hmp6
    have HG := Lib.hid hg6
    clear hes hat hpl2 hmp hx e2 e4 hg5 hmp6 hg6
    gi_wp2
    gi_region
    all_goals
      gi_wp2
      have hg := HG.out
      refine ⟨(Rd.refl _ _ _).drew.grown hg (fun k e => by cases e; exact ⟨fun h => h.elim (fun h => by have := hlt _ h; omega) (fun h => by have := h.1; omega), .inl (by omega)⟩), ?_⟩
      refine ⟨_, ?_, HP.out, (hg.block _ hv.lt (fun e => by have := Option.some.inj e; omega)).trans hv, (hB.drew).grown hg (by have := hB.size; exact this) (fun k e => by cases e; exact Nat.le_refl _)⟩
      rw [List.length_append]
      exact H6.out
  case hd =>
    rintro W ⟨D, hmp, hpl2, hv, hB⟩ hD
    have hc := hv.cell
    have hlen := hmp.len Try.underlying64 3
    rw [hpl2.2.1] at hlen
    clear hpl2 hmp
    gi_wp2
    exact leave_one hD (results_tmp rfl _ _ _) ⟨rfl, below_putObj hB (Nat.le_refl _) hB1.size _⟩

end Go.Proofs.Ytpdpdohkhiplpaa
