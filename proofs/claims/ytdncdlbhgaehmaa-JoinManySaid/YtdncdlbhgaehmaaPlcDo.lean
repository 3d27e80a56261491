/- The contract of package place's Do. -/
import Derived.Test.YtdncdlbhgaehmaaPlcBrg
import Derived.Test.YtdncdlbhgaehmaaPlcGon
import Derived.Test.YtdncdlbhgaehmaaPlcS
import Derived.Test.YtdncdlbhgaehmaaPartIs
import Derived.Test.YtdncdlbhgaehmaaSprDo
import Derived.Test.YtdncdlbhgaehmaaSprM
import Derived.Test.YtdncdlbhgaehmaaPartFacts
import Derived.Maps.OwnIn
import Derived.Test.YtdncdlbhgaehmaaRegion
namespace Go.Proofs.Ytdncdlbhgaehmaa
open Go.RowKit Go.Shelf
set_option linter.unusedVariables false
set_option linter.unusedSimpArgs false
attribute [local go_sem] Oper.semAt_some wide_fn wide_round_fn
attribute [local irreducible] wpQuietIn

def doS (Bl Xb d : Nat) (G P : Array Value) (W : World) : Prop := W.cell? ⟨Bl, 0, none⟩ = some (.pointer (some ⟨d, 0, none⟩)) ∧ W.cell? ⟨Xb, 0, none⟩ = G[0]? ∧ W.cell? ⟨Xb, 1, none⟩ = G[1]? ∧ W.cell? ⟨Xb, 2, none⟩ = G[2]? ∧ W.cell? ⟨Xb, 3, none⟩ = G[3]? ∧ W.cell? ⟨Xb, 4, none⟩ = G[4]? ∧ W.cell? ⟨Xb, 5, none⟩ = G[5]? ∧ W.cell? ⟨Xb, 6, none⟩ = G[6]? ∧ W.cell? ⟨Bl + 1, 0, none⟩ = P[0]? ∧ W.cell? ⟨Bl + 1, 1, none⟩ = P[1]? ∧ W.cell? ⟨Bl + 1, 2, none⟩ = P[2]? ∧ W.cell? ⟨Bl + 1, 3, none⟩ = P[3]? ∧ W.cell? ⟨Bl + 1, 4, none⟩ = P[4]? ∧ W.cell? ⟨Bl + 1, 5, none⟩ = P[5]? ∧ W.cell? ⟨Bl + 1, 6, none⟩ = P[6]? ∧ W.cell? ⟨Bl + 1, 7, none⟩ = P[7]? ∧ W.cell? ⟨Bl + 1, 8, none⟩ = P[8]? ∧ W.cell? ⟨Bl + 1, 9, none⟩ = P[9]?
theorem doS_of {Bl Xb d : Nat} {G P : Array Value} {W : World} (h1 : W.heap[Bl]? = some (.cells #[.pointer (some ⟨d, 0, none⟩)] 91 (0, 0))) (h2 : W.heap[Xb]? = some (.cells G 65 (0, 0))) (h3 : W.heap[Bl + 1]? = some (.cells P 41 (0, 0))) : doS Bl Xb d G P W :=
  ⟨cell_of_row _ _ 0 _ _ _ h1, cell_of_row _ _ 0 _ _ _ h2, cell_of_row _ _ 1 _ _ _ h2, cell_of_row _ _ 2 _ _ _ h2, cell_of_row _ _ 3 _ _ _ h2, cell_of_row _ _ 4 _ _ _ h2, cell_of_row _ _ 5 _ _ _ h2, cell_of_row _ _ 6 _ _ _ h2, cell_of_row _ _ 0 _ _ _ h3, cell_of_row _ _ 1 _ _ _ h3, cell_of_row _ _ 2 _ _ _ h3, cell_of_row _ _ 3 _ _ _ h3, cell_of_row _ _ 4 _ _ _ h3, cell_of_row _ _ 5 _ _ _ h3, cell_of_row _ _ 6 _ _ _ h3, cell_of_row _ _ 7 _ _ _ h3, cell_of_row _ _ 8 _ _ _ h3, cell_of_row _ _ 9 _ _ _ h3⟩
theorem wpIn_of_heldP {F : Fence} {n : Nat} {P : Program} {id : Nat} {Q : Exit → Act → World → Prop} {a : Act} {w : World} {l : List Oper} {S : World → Prop} (hm : P.follows .mixedOrders = true) (hd : l.all (fun o => !isDefer o.op) = true) (hF : ∃ ro, F = { Fence.wide with round := ro }) (hS : S w.drew)
    (h : S w.drew → wpAnyH P .any l.toArray (onlyNormal Q) S l.toArray.size (Array.replicate l.toArray.size false) a w.drew) : (Code.region id l.toArray true).wpIn F n P Q a w := by
  refine wpIn_region_any hm (anyIn_of_plain hF (fun i o ho => ?_) _ _ _ _ (wpAny_of_held _ _ _ _ (h hS)))
  have hmem : o ∈ l := by
    simp only [List.getElem?_toArray] at ho
    exact List.mem_of_getElem? ho
  have := List.all_eq_true.1 hd o hmem
  simpa using this
theorem st8_block {W : World} {b : Nat} {T : TypeId} {z0 z1 z2 z3 z4 z5 z6 z7 : Value} (h : W.heap[b]? = some (.cells #[z0, z1, z2, z3, z4, z5, z6, z7] T (0, 0))) (v0 v1 v2 v3 v4 v5 v6 : Value) :
    (st7 W b v0 v1 v2 v3 v4 v5 v6).heap[b]? = some (.cells #[v0, v1, v2, v3, v4, v5, v6, z7] T (0, 0)) := by
  have h0 := Go.Joins.block_setCell h v0 (i := 0)
  have h1 := Go.Joins.block_setCell h0 v1 (i := 1)
  have h2 := Go.Joins.block_setCell h1 v2 (i := 2)
  have h3 := Go.Joins.block_setCell h2 v3 (i := 3)
  have h4 := Go.Joins.block_setCell h3 v4 (i := 4)
  have h5 := Go.Joins.block_setCell h4 v5 (i := 5)
  have h6 := Go.Joins.block_setCell h5 v6 (i := 6)
  simpa only [List.setIfInBounds_toArray, List.set_cons_succ, List.set_cons_zero] using h6
theorem boxes3p (w : World) (A1 A2 A3 : Array Value) (T1 T2 T3 : TypeId) : (((w.alloc (.cells A1 T1)).alloc (.cells A2 T2)).alloc (.cells A3 T3)).heap[w.heap.size]? = some (.cells A1 T1 (0, 0)) ∧ (((w.alloc (.cells A1 T1)).alloc (.cells A2 T2)).alloc (.cells A3 T3)).heap[w.heap.size + 1]? = some (.cells A2 T2 (0, 0)) ∧ (((w.alloc (.cells A1 T1)).alloc (.cells A2 T2)).alloc (.cells A3 T3)).heap[w.heap.size + 1 + 1]? = some (.cells A3 T3 (0, 0)) := by
  have h1 := two_a w A1 A2 T1 T2
  have h2 := two_b w A1 A2 T1 T2
  have hB := bel_alloc (Below.refl _ ((w.alloc (.cells A1 T1)).alloc (.cells A2 T2))) (.cells A3 T3)
  have h3 := World.alloc_heap_new ((w.alloc (.cells A1 T1)).alloc (.cells A2 T2)) (.cells A3 T3)
  rw [World.size_alloc, World.size_alloc] at h3
  exact ⟨(hB.block _ (heap_lt h1)).trans h1, (hB.block _ (heap_lt h2)).trans h2, h3⟩
theorem hasG_p {T : Nat → Prop} {W W' : World} {a : Option Addr} {g : GM} (h : HasG W a g) (hF : FrameT T W W') (hT : ∀ k, inBlkE a g.l.length k → ¬ T k) : HasG W' a g := ⟨h.1, rowV_frame h.2 hF hT⟩
theorem entCells_str : ∀ (l : List EntryC) (h : 2 < (entryCells l).length), ∃ s, (entryCells l)[2] = .string s := fun l h => by
  cases l with
  | nil => simp [entryCells] at h
  | cons y r => exact ⟨y.d, by simp [entryCells, EntryC.cells]⟩
theorem rowV_not_d {W : World} {a : Option Addr} {l : List EntryC} {d c m : Nat} {g : GM} {b : Option Addr} {t : TypeId} {fz : Nat × Nat} (hd : W.heap[d]? = some (.cells (logArr g b c m) t fz)) (h : RowV W a l.length 3 (entryCells l)) : ∀ k, inBlkE a l.length k → k ≠ d := by
  rintro k ⟨b', off, e, h0, rfl⟩ hb
  subst hb
  obtain ⟨b2, off2, e2, _, hc⟩ := h.2.2 h0
  rw [e] at e2
  cases e2
  have hl : (entryCells l).length = l.length * 3 := h.1
  have h2 := hc 2 (by omega)
  obtain ⟨s, hs⟩ := entCells_str l (by omega)
  rw [hs, Lib.cell_of_heap hd] at h2
  have key : ∀ v ∈ (logArr g b c m), v ≠ .string s := by intro v hv; simp [logArr] at hv; rcases hv with h | h | h | h | h | h | h | h <;> rw [h] <;> simp
  have h3 := Array.mem_of_getElem? h2
  exact key _ h3 rfl
theorem rowV_not_m {W : World} {a : Option Addr} {l : List EntryC} {m : Nat} {F : List LV} (hm : HasPl W m F) (h : RowV W a l.length 3 (entryCells l)) : ∀ k, inBlkE a l.length k → k ≠ m := by
  rintro k ⟨b', off, e, h0, rfl⟩ hb
  subst hb
  obtain ⟨b2, off2, e2, _, hc⟩ := h.2.2 h0
  rw [e] at e2
  cases e2
  have hl : (entryCells l).length = l.length * 3 := h.1
  obtain ⟨o, ho, hcl⟩ := isCells_of_cell (hc 0 (by omega))
  obtain ⟨es, ck, hb⟩ := hm.block
  rw [hb] at ho; cases ho; cases hcl
theorem FrameT.farP {T U : Nat → Prop} {w w1 w2 : World} (h : FrameT T w w1) (h2 : FrameT U w1 w2) (hU : ∀ k, U k → T k ∨ w.heap.size ≤ k) : FrameT T w w2 :=
  ⟨h2.os.trans h.os, h2.tape.trans h.tape, h2.output.trans h.output, Nat.le_trans h.size h2.size, fun k hk hT => (h2.block k (Nat.lt_of_lt_of_le hk h.size) (fun hu => by
    rcases hU k hu with h | h
    · exact hT h
    · omega)).trans (h.block k hk hT)⟩
theorem FrameT.putP {T : Nat → Prop} (W : World) {D : Nat} (o : Obj) (hD : T D) : FrameT T W (W.putObj D o) :=
  have g := grownBy_putObj' W D o
  ⟨g.os, g.tape, g.output, g.size, fun k hk hT => g.block k hk (fun e => hT (by cases e; exact hD))⟩
/-- What the rounds leave: the map has turned. -/
def runM (a : World) (m : Nat) (F : List LV) (W' : World) : Prop := HasPl W' m F ∧ FrameT (fun k => k = m) a W'
theorem runM_stab {a : World} {m B : Nat} {F : List LV} (ha : a.heap.size ≤ B) (hm : m < B) : Stab B (fun _ => False) (runM a m F) := fun W W' h hmv => by
  obtain ⟨⟨es, ck, hb, r⟩, hF⟩ := h
  exact ⟨⟨es, ck, hmv.block _ _ hb id (.inl hm), r⟩, hF.after (B := B) ⟨hmv.os, hmv.tape, hmv.output, hmv.size, fun k o ho _ hc => hmv.block k o ho id hc⟩ ha⟩
theorem runM_rd {B m : Nat} {S : Nat → Prop} {w w' : World} (h : FrameT (fun k => k = m) w w') (hm : m < B) (hS : ∀ k, S k → k ≠ m) : Rd B S w w' :=
  ⟨h.os, h.tape, h.output, h.size, fun k o ho hc => h.get ho (by
    rintro rfl
    rcases hc with hc | hc
    · exact hS _ hc rfl
    · omega)⟩
theorem hasE_p {T : Nat → Prop} {W W' : World} {P : PartC} {pl : List EntryC} (h : HasE W P pl) (hF : FrameT T W W') (hT : ∀ k, inBlkE P.a pl.length k → ¬ T k) : HasE W' P pl := ⟨h.1, h.2.1, rowV_frame h.2.2 hF (by rw [← h.1]; exact hT)⟩
theorem hasE_row {W : World} {P : PartC} {pl : List EntryC} (h : HasE W P pl) : RowV W P.a pl.length 3 (entryCells pl) := by have h1 := h.2.2; rw [← h.1] at h1; exact h1
theorem wfP {n : Int} (h : -9223372036854775808 ≤ n ∧ n < 9223372036854775808) : (Lit.int .i64 n).wf = true := by
  simp [Lit.wf, IntKind.min, IntKind.max, IntKind.signed, IntKind.bits]; omega
theorem gonL_wf {b a : List EntryC} (h : ∀ e ∈ b, entryB e = true) : ∀ x ∈ gonL b a, (Lit.int .i64 x).wf = true := by
  intro x hx
  unfold gonL at hx
  obtain ⟨e, he, rfl⟩ := List.mem_map.1 hx
  have h1 := (entryB_bd (h e (List.mem_filter.1 he).1)).1
  exact wfP (by omega)
theorem brgL_wf {g : GM} {p : PartC} {pl : List EntryC} {fi : Int} (h : ∀ e ∈ g.l, entryB e = true) : ∀ x ∈ brgL g p pl fi, (Lit.int .i64 x).wf = true := by
  intro x hx
  unfold brgL at hx
  rw [List.mem_append, List.mem_append] at hx
  rcases hx with (hx | hx) | hx
  · split at hx
    · obtain rfl : x = -1 := by simpa using hx
      exact wfP (by omega)
    · cases hx
  · split at hx
    · obtain rfl : x = 0 := by simpa using hx
      exact wfP (by omega)
    · cases hx
  · obtain ⟨e, he, rfl⟩ := List.mem_map.1 hx
    have h2 := (List.mem_filter.1 he).2
    have h1 := (entryB_bd (h e (by simpa using h2))).1
    exact wfP (by omega)
theorem brgL_len (g : GM) (p : PartC) (pl : List EntryC) (fi : Int) : (brgL g p pl fi).length ≤ pl.length + 2 := by
  unfold brgL
  rw [List.length_append, List.length_append, List.length_map]
  have h1 := List.length_filter_le (fun e => decide (e ∈ g.l)) pl
  have h2 : (if p.k = 2 ∨ p.k = 6 ∧ p.h = true then [-1] else ([] : List Int)).length ≤ 1 := by split <;> simp
  have h3 : (if markB g p fi = true then [0] else ([] : List Int)).length ≤ 1 := by split <;> simp
  omega
theorem gon_any (a1 a2 : Option Addr) (n1 n2 k1 k2 : Nat) (W : World) : Calls Try.prog 72 #[.slice a1 n1 k1, .slice a2 n2 k2] W fun e w' => e = .returned (.func (.func 96) #[] #[.pointer (some ⟨W.heap.size, 0, none⟩), .pointer (some ⟨W.heap.size + 1, 0, none⟩)]) ∧ w' = (W.alloc (.cells #[.slice a1 n1 k1] 37)).alloc (.cells #[.slice a2 n2 k2] 37) := by
  go_enter Try.func72, Try.ntmps72
  go_wp2
  go_ret
  exact ⟨rfl, rfl⟩
set_option maxRecDepth 100000 in
theorem brg_any (d : Nat) (pg pk : Int) (pa : Option Addr) (plen pcap : Nat) (pht phv phc pi pt : Int) (pm ph : Bool) (fi0 : Int) (W : World) : Calls Try.prog 73 #[.pointer (some ⟨d, 0, none⟩), .agg #[.int .i64 pg, .int .i64 pk, .slice pa plen pcap, .int .i64 pht, .int .i64 phv, .int .i64 phc, .int .i64 pi, .int .i64 pt, .bool pm, .bool ph], .int .i64 fi0] W fun e w' => e = .returned (.func (.func 97) #[] #[.pointer (some ⟨W.heap.size + 1, 0, none⟩), .pointer (some ⟨W.heap.size, 0, none⟩), .pointer (some ⟨W.heap.size + 1 + 1, 0, none⟩)]) ∧ w' = ((W.alloc (.cells #[.pointer (some ⟨d, 0, none⟩)] 91)).alloc (.cells #[.int .i64 pg, .int .i64 pk, .slice pa plen pcap, .int .i64 pht, .int .i64 phv, .int .i64 phc, .int .i64 pi, .int .i64 pt, .bool pm, .bool ph] 41)).alloc (.cells #[.int .i64 fi0] 3) := by
  go_enter Try.func73, Try.ntmps73
  go_wp2
  go_ret
  exact ⟨rfl, rfl⟩
set_option maxRecDepth 100000 in
set_option maxHeartbeats 4000000 in
/-- A part that is none, of another group, a destruction: nothing is done. -/
theorem pdo_no {W : World} {d m : Nat} {a : Option Addr} {c : Nat} {F : List LV} (id fi te ht hv hc : Int) (l : List EntryC) (h : LogAt W d m ⟨id, fi, te, ht, hv, hc, l⟩ a c F) (pg pk : Int) (pa : Option Addr) (plen pcap : Nat) (pht phv phc pi pt : Int) (pm ph : Bool) (pl : List EntryC) (s t : Int) (hpe : HasE W ⟨pg, pk, pa, plen, pcap, pht, phv, phc, pi, pt, pm, ph⟩ pl) (hno : isB ⟨pg, pk, pa, plen, pcap, pht, phv, phc, pi, pt, pm, ph⟩ pl = false ∨ pg ≠ id ∨ pk = 5) :
    Calls Try.prog 46 #[.pointer (some ⟨d, 0, none⟩), .agg #[.int .i64 pg, .int .i64 pk, .slice pa plen pcap, .int .i64 pht, .int .i64 phv, .int .i64 phc, .int .i64 pi, .int .i64 pt, .bool pm, .bool ph], .agg #[.int .i64 s, .int .i64 t]] W fun e w' => (∃ v, e = .returned v) ∧ Below W.heap.size W w' := by
  have hb3 := boxes3p W #[.pointer (some ⟨d, 0, none⟩)] #[.int .i64 pg, .int .i64 pk, .slice pa plen pcap, .int .i64 pht, .int .i64 phv, .int .i64 phc, .int .i64 pi, .int .i64 pt, .bool pm, .bool ph] #[.int .i64 s, .int .i64 t] 91 41 34
  have hA := bel_alloc (bel_alloc (bel_alloc (Below.refl W.heap.size W) (.cells #[.pointer (some ⟨d, 0, none⟩)] 91)) (.cells #[.int .i64 pg, .int .i64 pk, .slice pa plen pcap, .int .i64 pht, .int .i64 phv, .int .i64 phc, .int .i64 pi, .int .i64 pt, .bool pm, .bool ph] 41)) (.cells #[.int .i64 s, .int .i64 t] 34)
  have hlg := h.below hA
  have hpe3 := hpe.below hA
  have hz3 : (((W.alloc (.cells #[.pointer (some ⟨d, 0, none⟩)] 91)).alloc (.cells #[.int .i64 pg, .int .i64 pk, .slice pa plen pcap, .int .i64 pht, .int .i64 phv, .int .i64 phc, .int .i64 pi, .int .i64 pt, .bool pm, .bool ph] 41)).alloc (.cells #[.int .i64 s, .int .i64 t] 34)).heap.size = W.heap.size + 3 := by simp
  have HZ3 := Lib.hid hz3
  have HA := Lib.hid hA
  clear hz3 hA h hpe
  refine (callsIn_wide (n := 9)).1 ?_
  refine callsIn_of_wp_marks Try.func46 rfl trivial ?_ rfl
  simp only [Try.ntmps46, List.size_toArray, List.length_cons, List.length_nil, Nat.reduceAdd, Nat.reduceSub, Array.replicate_succ, Array.replicate_zero, List.push_toArray, List.append_toArray, List.nil_append, List.cons_append]
  gi_wp2
  generalize (((W.alloc (.cells #[.pointer (some ⟨d, 0, none⟩)] 91)).alloc (.cells #[.int .i64 pg, .int .i64 pk, .slice pa plen pcap, .int .i64 pht, .int .i64 phv, .int .i64 phc, .int .i64 pi, .int .i64 pt, .bool pm, .bool ph] 41)).alloc (.cells #[.int .i64 s, .int .i64 t] 34)) = w3 at *
  have HB3 := Lib.hid hb3
  have HLG := Lib.hid hlg
  have GI := Lib.hid (fun W' (hB : Below w3.heap.size w3 W') => is_any ⟨pg, pk, pa, plen, pcap, pht, phv, phc, pi, pt, pm, ph⟩ pl W' (hpe3.below hB))
  have HPE := Lib.hid hpe3
  have HS := Lib.hid (fun W' (hW : Above w3 W') => (show W'.cell? ⟨W.heap.size, 0, none⟩ = some (.pointer (some ⟨d, 0, none⟩)) ∧ W'.cell? ⟨W.heap.size + 1, 0, none⟩ = some (.int .i64 pg) ∧ W'.cell? ⟨W.heap.size + 1, 1, none⟩ = some (.int .i64 pk) ∧ W'.cell? ⟨W.heap.size + 1, 2, none⟩ = some (.slice pa plen pcap) ∧ W'.cell? ⟨W.heap.size + 1, 3, none⟩ = some (.int .i64 pht) ∧ W'.cell? ⟨W.heap.size + 1, 4, none⟩ = some (.int .i64 phv) ∧ W'.cell? ⟨W.heap.size + 1, 5, none⟩ = some (.int .i64 phc) ∧ W'.cell? ⟨W.heap.size + 1, 6, none⟩ = some (.int .i64 pi) ∧ W'.cell? ⟨W.heap.size + 1, 7, none⟩ = some (.int .i64 pt) ∧ W'.cell? ⟨W.heap.size + 1, 8, none⟩ = some (.bool pm) ∧ W'.cell? ⟨W.heap.size + 1, 9, none⟩ = some (.bool ph) ∧ W'.cell? ⟨d, 0, none⟩ = some (.int .i64 id) from by
    have hB : Below _ _ W' := hW
    have h1 := (hB.block _ (heap_lt hb3.1)).trans hb3.1
    have h2 := (hB.block _ (heap_lt hb3.2.1)).trans hb3.2.1
    have h3 := (hB.block _ (heap_lt hlg.1)).trans hlg.1
    obtain ⟨q0, q1, q2, q3, q4, q5, q6, q7, q8, q9⟩ := arr10p h2
    exact ⟨cell_of_row _ _ 0 _ _ _ h1, q0, q1, q2, q3, q4, q5, q6, q7, q8, q9, (cells8 h3).1⟩))
  clear hb3 hlg hpe3
  cases hb : isB ⟨pg, pk, pa, plen, pcap, pht, phv, phc, pi, pt, pm, ph⟩ pl
  · rw [hb] at GI
    clear hb hno
    refine wpIn_region_below rfl (by kernel_rfl) (by kernel_rfl) ?_
    repeat (first
      | (refine BigFrame.wpQuietIn_skip (by first | quiet_asked_in | exact fun _ _ _ _ => trivial) (by rfl) ?_; (try simp only [Act.put, List.setIfInBounds_toArray, List.set_cons_zero, List.set_cons_succ]))
      | (refine BigFrame.wpQuietIn_want (by first | quiet_asked_in | exact fun _ _ _ _ => trivial) (by rfl) (fun K hK => ?_); apply Exists.intro; refine ⟨fun W hW => ?_, hK _ ?_⟩; (focus (have hWB : Below _ _ W := hW; obtain ⟨kl, p0, p1, p2, p3, p4, p5, p6, p7, p8, p9, d0⟩ := HS.out _ hW; go_simp; (first | done | with_reducible rfl | (gi_at_call 44; refine callsIn_wide.2 ?_; with_reducible exact gives_above hW (GI.out _ hWB)) | (rw [if_neg (by omega)]; go_simp; (first | done | with_reducible rfl))))); clear hK K; (try simp only [Act.put, List.setIfInBounds_toArray, List.set_cons_zero, List.set_cons_succ])))
    refine wpQuietIn_nil ?_
    intro w5 hB5
    replace hB5 : Below w3.heap.size w3 w5 := hB5
    gi_wp2
    exact ⟨_, results_none rfl _ _ _, ⟨_, rfl⟩, bel2 HA.out hB5⟩
  · rw [hb] at GI
    by_cases hg : pg = id
    · have hk : pk = 5 := by
        rcases hno with h | h | h
        · rw [hb] at h; cases h
        · exact absurd hg h
        · exact h
      have hgb : (pg != id) = false := by simp [hg]
      have hkb : (pk == 5) = true := by rw [beq_iff_eq]; exact hk
      clear hb hno hk hg
      refine wpIn_region_below rfl (by kernel_rfl) (by kernel_rfl) ?_
      repeat (first
        | (refine BigFrame.wpQuietIn_skip (by first | quiet_asked_in | exact fun _ _ _ _ => trivial) (by rfl) ?_; (try simp only [Act.put, List.setIfInBounds_toArray, List.set_cons_zero, List.set_cons_succ]))
        | (refine BigFrame.wpQuietIn_want (by first | quiet_asked_in | exact fun _ _ _ _ => trivial) (by rfl) (fun K hK => ?_); apply Exists.intro; refine ⟨fun W hW => ?_, hK _ ?_⟩; (focus (have hWB : Below _ _ W := hW; obtain ⟨kl, p0, p1, p2, p3, p4, p5, p6, p7, p8, p9, d0⟩ := HS.out _ hW; go_simp; (first | done | with_reducible rfl | (gi_at_call 44; refine callsIn_wide.2 ?_; with_reducible exact gives_above hW (GI.out _ hWB)) | (rw [if_neg (by omega)]; go_simp; (first | done | with_reducible rfl))))); clear hK K; (try simp only [Act.put, List.setIfInBounds_toArray, List.set_cons_zero, List.set_cons_succ])))
      refine wpQuietIn_nil ?_
      intro w5 hB5
      replace hB5 : Below w3.heap.size w3 w5 := hB5
      gi_wp2
      exact ⟨_, results_none rfl _ _ _, ⟨_, rfl⟩, bel2 HA.out hB5⟩
    · have hgb : (pg != id) = true := by simp [hg]
      clear hb hno hg
      refine wpIn_region_below rfl (by kernel_rfl) (by kernel_rfl) ?_
      repeat (first
        | (refine BigFrame.wpQuietIn_skip (by first | quiet_asked_in | exact fun _ _ _ _ => trivial) (by rfl) ?_; (try simp only [Act.put, List.setIfInBounds_toArray, List.set_cons_zero, List.set_cons_succ]))
        | (refine BigFrame.wpQuietIn_want (by first | quiet_asked_in | exact fun _ _ _ _ => trivial) (by rfl) (fun K hK => ?_); apply Exists.intro; refine ⟨fun W hW => ?_, hK _ ?_⟩; (focus (have hWB : Below _ _ W := hW; obtain ⟨kl, p0, p1, p2, p3, p4, p5, p6, p7, p8, p9, d0⟩ := HS.out _ hW; go_simp; (first | done | with_reducible rfl | (gi_at_call 44; refine callsIn_wide.2 ?_; with_reducible exact gives_above hW (GI.out _ hWB)) | (rw [if_neg (by omega)]; go_simp; (first | done | with_reducible rfl))))); clear hK K; (try simp only [Act.put, List.setIfInBounds_toArray, List.set_cons_zero, List.set_cons_succ])))
      refine wpQuietIn_nil ?_
      intro w5 hB5
      replace hB5 : Below w3.heap.size w3 w5 := hB5
      gi_wp2
      exact ⟨_, results_none rfl _ _ _, ⟨_, rfl⟩, bel2 HA.out hB5⟩
set_option maxRecDepth 100000 in
set_option maxHeartbeats 8000000 in
theorem pdo_yes {W : World} {d m : Nat} {a : Option Addr} {c : Nat} {F : List LV} (id fi te ht hv hc : Int) (l : List EntryC) (h : LogAt W d m ⟨id, fi, te, ht, hv, hc, l⟩ a c F) (pg pk : Int) (pa : Option Addr) (plen pcap : Nat) (pht phv phc pi pt : Int) (pm ph : Bool) (pl : List EntryC) (s t : Int) (hpe : HasE W ⟨pg, pk, pa, plen, pcap, pht, phv, phc, pi, pt, pm, ph⟩ pl) (hok : isB ⟨pg, pk, pa, plen, pcap, pht, phv, phc, pi, pt, pm, ph⟩ pl = true ∧ pg = id ∧ pk ≠ 5) (hpc : pl.length ≤ pcap) (hmd : m ≠ d) (h30 : l.length ≤ 100000) (hI : isSp ⟨id, fi, te, ht, hv, hc, l⟩ = true) (hI2 : isSp (doSp ⟨id, fi, te, ht, hv, hc, l⟩ ⟨pg, pk, pa, plen, pcap, pht, phv, phc, pi, pt, pm, ph⟩ pl) = true) (h31 : (doSp ⟨id, fi, te, ht, hv, hc, l⟩ ⟨pg, pk, pa, plen, pcap, pht, phv, phc, pi, pt, pm, ph⟩ pl).l.length < 1000000) (hFl : F.length < 10000000) :
    Calls Try.prog 46 #[.pointer (some ⟨d, 0, none⟩), .agg #[.int .i64 pg, .int .i64 pk, .slice pa plen pcap, .int .i64 pht, .int .i64 phv, .int .i64 phc, .int .i64 pi, .int .i64 pt, .bool pm, .bool ph], .agg #[.int .i64 s, .int .i64 t]] W fun e w' => (∃ v, e = .returned v) ∧ ∃ a' c', LogAt w' d m (doSp ⟨id, fi, te, ht, hv, hc, l⟩ ⟨pg, pk, pa, plen, pcap, pht, phv, phc, pi, pt, pm, ph⟩ pl) a' c' (putAll s t (delAll F (gonL l (doSp ⟨id, fi, te, ht, hv, hc, l⟩ ⟨pg, pk, pa, plen, pcap, pht, phv, phc, pi, pt, pm, ph⟩ pl).l)) (brgL (doSp ⟨id, fi, te, ht, hv, hc, l⟩ ⟨pg, pk, pa, plen, pcap, pht, phv, phc, pi, pt, pm, ph⟩ pl) ⟨pg, pk, pa, plen, pcap, pht, phv, phc, pi, pt, pm, ph⟩ pl fi)) ∧ FrameT (fun k => k = d ∨ k = m) W w' := by
  have hmx : Try.prog.follows .mixedOrders = true := by kernel_rfl
  have HOK := Lib.hid hok
  have HI := Lib.hid hI
  have HI2 := Lib.hid hI2
  have HAE := Lib.hid h
  have HPE0 := Lib.hid hpe
  obtain ⟨G2, hG2⟩ : ∃ G2, G2 = doSp ⟨id, fi, te, ht, hv, hc, l⟩ ⟨pg, pk, pa, plen, pcap, pht, phv, phc, pi, pt, pm, ph⟩ pl := ⟨_, rfl⟩
  rw [← hG2]
  have HI2' := HI2
  rw [← hG2] at h31
  have H31 := Lib.hid h31
  have H30 := Lib.hid h30
  have HFL := Lib.hid hFl
  clear hFl
  clear h31
  rw [← hG2] at HI2'
  have HG2 := Lib.hid hG2
  have HFI := Lib.hid (isSp_iff.1 HI.out)
  have HRI := Lib.hid (show Ris l from ris_pw.2 (sprB_iff.1 HFI.out.2.2).2.2)
  have HFI2 := Lib.hid (isSp_iff.1 HI2'.out)
  clear hok hI hI2 hG2 HI2'
  obtain ⟨id2, fi2, te2, ht2, hv2, hc2, l2⟩ := G2
  have HRI2 := Lib.hid (show Ris l2 from ris_pw.2 (sprB_iff.1 HFI2.out.2.2).2.2)
  have hb3 := boxes3p W #[.pointer (some ⟨d, 0, none⟩)] #[.int .i64 pg, .int .i64 pk, .slice pa plen pcap, .int .i64 pht, .int .i64 phv, .int .i64 phc, .int .i64 pi, .int .i64 pt, .bool pm, .bool ph] #[.int .i64 s, .int .i64 t] 91 41 34
  have hA := bel_alloc (bel_alloc (bel_alloc (Below.refl W.heap.size W) (.cells #[.pointer (some ⟨d, 0, none⟩)] 91)) (.cells #[.int .i64 pg, .int .i64 pk, .slice pa plen pcap, .int .i64 pht, .int .i64 phv, .int .i64 phc, .int .i64 pi, .int .i64 pt, .bool pm, .bool ph] 41)) (.cells #[.int .i64 s, .int .i64 t] 34)
  have hlg := h.below hA
  have hpe3 := hpe.below hA
  have hz3 : (((W.alloc (.cells #[.pointer (some ⟨d, 0, none⟩)] 91)).alloc (.cells #[.int .i64 pg, .int .i64 pk, .slice pa plen pcap, .int .i64 pht, .int .i64 phv, .int .i64 phc, .int .i64 pi, .int .i64 pt, .bool pm, .bool ph] 41)).alloc (.cells #[.int .i64 s, .int .i64 t] 34)).heap.size = W.heap.size + 3 := by simp
  have HZ3 := Lib.hid hz3
  have HA := Lib.hid hA
  clear hz3 hA h hpe
  refine (callsIn_wide (n := 9)).1 ?_
  refine callsIn_of_wp_marks Try.func46 rfl trivial ?_ rfl
  simp only [Try.ntmps46, List.size_toArray, List.length_cons, List.length_nil, Nat.reduceAdd, Nat.reduceSub, Array.replicate_succ, Array.replicate_zero, List.push_toArray, List.append_toArray, List.nil_append, List.cons_append]
  gi_wp2
  generalize (((W.alloc (.cells #[.pointer (some ⟨d, 0, none⟩)] 91)).alloc (.cells #[.int .i64 pg, .int .i64 pk, .slice pa plen pcap, .int .i64 pht, .int .i64 phv, .int .i64 phc, .int .i64 pi, .int .i64 pt, .bool pm, .bool ph] 41)).alloc (.cells #[.int .i64 s, .int .i64 t] 34)) = w3 at *
  have HB3 := Lib.hid hb3
  have HLG := Lib.hid hlg
  have GI := Lib.hid (fun W' (hB : Below w3.heap.size w3 W') => is_any ⟨pg, pk, pa, plen, pcap, pht, phv, phc, pi, pt, pm, ph⟩ pl W' (hpe3.below hB))
  have HPE := Lib.hid hpe3
  have HS := Lib.hid (fun W' (hW : Above w3 W') => (show W'.cell? ⟨W.heap.size, 0, none⟩ = some (.pointer (some ⟨d, 0, none⟩)) ∧ W'.cell? ⟨W.heap.size + 1, 0, none⟩ = some (.int .i64 pg) ∧ W'.cell? ⟨W.heap.size + 1, 1, none⟩ = some (.int .i64 pk) ∧ W'.cell? ⟨W.heap.size + 1, 2, none⟩ = some (.slice pa plen pcap) ∧ W'.cell? ⟨W.heap.size + 1, 3, none⟩ = some (.int .i64 pht) ∧ W'.cell? ⟨W.heap.size + 1, 4, none⟩ = some (.int .i64 phv) ∧ W'.cell? ⟨W.heap.size + 1, 5, none⟩ = some (.int .i64 phc) ∧ W'.cell? ⟨W.heap.size + 1, 6, none⟩ = some (.int .i64 pi) ∧ W'.cell? ⟨W.heap.size + 1, 7, none⟩ = some (.int .i64 pt) ∧ W'.cell? ⟨W.heap.size + 1, 8, none⟩ = some (.bool pm) ∧ W'.cell? ⟨W.heap.size + 1, 9, none⟩ = some (.bool ph) ∧ W'.cell? ⟨d, 0, none⟩ = some (.int .i64 id) from by
    have hB : Below _ _ W' := hW
    have h1 := (hB.block _ (heap_lt hb3.1)).trans hb3.1
    have h2 := (hB.block _ (heap_lt hb3.2.1)).trans hb3.2.1
    have h3 := (hB.block _ (heap_lt hlg.1)).trans hlg.1
    obtain ⟨q0, q1, q2, q3, q4, q5, q6, q7, q8, q9⟩ := arr10p h2
    exact ⟨cell_of_row _ _ 0 _ _ _ h1, q0, q1, q2, q3, q4, q5, q6, q7, q8, q9, (cells8 h3).1⟩))
  clear hb3 hlg hpe3
  have hgb : (pg != id) = false := by simp [HOK.out.2.1]
  have hkb : (pk == 5) = false := by rw [beq_eq_false_iff_ne]; exact HOK.out.2.2
  rw [HOK.out.1] at GI
  refine wpIn_region_below rfl (by kernel_rfl) (by kernel_rfl) ?_
  repeat (first
    | (refine BigFrame.wpQuietIn_skip (by first | quiet_asked_in | exact fun _ _ _ _ => trivial) (by rfl) ?_; (try simp only [Act.put, List.setIfInBounds_toArray, List.set_cons_zero, List.set_cons_succ]))
    | (refine BigFrame.wpQuietIn_want (by first | quiet_asked_in | exact fun _ _ _ _ => trivial) (by rfl) (fun K hK => ?_); apply Exists.intro; refine ⟨fun W hW => ?_, hK _ ?_⟩; (focus (have hWB : Below _ _ W := hW; obtain ⟨kl, p0, p1, p2, p3, p4, p5, p6, p7, p8, p9, d0⟩ := HS.out _ hW; go_simp; (first | done | with_reducible rfl | (gi_at_call 44; refine callsIn_wide.2 ?_; with_reducible exact gives_above hW (GI.out _ hWB)) | (rw [if_neg (by omega)]; go_simp; (first | done | with_reducible rfl))))); clear hK K; (try simp only [Act.put, List.setIfInBounds_toArray, List.set_cons_zero, List.set_cons_succ])))
  refine wpQuietIn_nil ?_
  intro w5 hB5
  replace hB5 : Below w3.heap.size w3 w5 := hB5
  have hl5 := HLG.out.below hB5
  have hbl5 := (hB5.block _ (heap_lt HB3.out.1)).trans HB3.out.1
  obtain ⟨c0, c1, c2, c3, c4, c5, c6, c7⟩ := cells8 hl5.1
  have kl5 : w5.cell? ⟨W.heap.size, 0, none⟩ = some (.pointer (some ⟨d, 0, none⟩)) := cell_of_row _ _ 0 _ _ _ hbl5
  have HL5 := Lib.hid hl5
  have HB5 := Lib.hid hB5
  have HBL5 := Lib.hid hbl5
  clear hl5 hB5 hbl5
  gi_wp2
  have hbb := World.alloc_heap_new w5 (.cells #[.int .i64 id, .int .i64 fi, .int .i64 te, .int .i64 ht, .int .i64 hv, .int .i64 hc, .slice a l.length c] 65)
  have hA6 := bel_alloc (Below.refl w5.heap.size w5) (.cells #[.int .i64 id, .int .i64 fi, .int .i64 te, .int .i64 ht, .int .i64 hv, .int .i64 hc, .slice a l.length c] 65)
  have hz6 : (w5.alloc (.cells #[.int .i64 id, .int .i64 fi, .int .i64 te, .int .i64 ht, .int .i64 hv, .int .i64 hc, .slice a l.length c] 65)).heap.size = w5.heap.size + 1 := by simp
  have HZ6 := Lib.hid hz6
  have hl6 := HL5.out.below hA6
  have hlb6 := (hA6.block _ (heap_lt HBL5.out)).trans HBL5.out
  have hpb5 := (HB5.out.block _ (heap_lt HB3.out.2.1)).trans HB3.out.2.1
  have hab5 := (HB5.out.block _ (heap_lt HB3.out.2.2)).trans HB3.out.2.2
  have hpb6 := (hA6.block _ (heap_lt hpb5)).trans hpb5
  have hab6 := (hA6.block _ (heap_lt hab5)).trans hab5
  have hpe6 := (HPE.out.below HB5.out).below hA6
  have HW6 := Lib.hid (bel2 (bel2 HA.out HB5.out) hA6)
  clear c0 c1 c2 c3 c4 c5 c6 c7 kl5 hz6 hpb5 hab5 hA6
  generalize w5.alloc (.cells #[.int .i64 id, .int .i64 fi, .int .i64 te, .int .i64 ht, .int .i64 hv, .int .i64 hc, .slice a l.length c] 65) = w6 at *
  obtain ⟨Xb, hXb⟩ : ∃ Xb, Xb = w5.heap.size := ⟨_, rfl⟩
  rw [← hXb] at hbb
  rw [← hXb]
  have HXB := Lib.hid (show W.heap.size + 3 ≤ Xb from by have := HB5.out.size; have := HZ3.out; omega)
  clear hXb
  have HBB := Lib.hid hbb
  have HL6 := Lib.hid hl6
  have HLB6 := Lib.hid hlb6
  have HPB6 := Lib.hid hpb6
  have HAB6 := Lib.hid hab6
  have hdl := heap_lt HAE.out.1
  have hml := HAE.out.2.1.lt
  have hS3 : ∀ W', Below w6.heap.size w6 W' → doS W.heap.size Xb d #[.int .i64 id, .int .i64 fi, .int .i64 te, .int .i64 ht, .int .i64 hv, .int .i64 hc, .slice a l.length c] #[.int .i64 pg, .int .i64 pk, .slice pa plen pcap, .int .i64 pht, .int .i64 phv, .int .i64 phc, .int .i64 pi, .int .i64 pt, .bool pm, .bool ph] W' := fun W' hB => doS_of ((hB.block _ (heap_lt HLB6.out)).trans HLB6.out) ((hB.block _ (heap_lt HBB.out)).trans HBB.out) ((hB.block _ (heap_lt HPB6.out)).trans HPB6.out)
  have HS3 := Lib.hid hS3
  have GD := Lib.hid (fun W' (hB : Below w6.heap.size w6 W') => sdo_any id fi te ht hv hc l a c pg pk pa plen pcap pht phv phc pi pt pm ph pl W' (HL6.out.below hB).2.2.1 HL6.out.2.2.2 (hpe6.below hB) hpc h30)
  rw [← HG2.out] at GD
  have HPE6 := Lib.hid hpe6
  clear hS3 hbb hl6 hlb6 hpb6 hab6 hpe6
  clear hdl hml
  refine wpIn_of_heldP (S := doS W.heap.size Xb d #[.int .i64 id, .int .i64 fi, .int .i64 te, .int .i64 ht, .int .i64 hv, .int .i64 hc, .slice a l.length c] #[.int .i64 pg, .int .i64 pk, .slice pa plen pcap, .int .i64 pht, .int .i64 phv, .int .i64 phc, .int .i64 pi, .int .i64 pt, .bool pm, .bool ph]) hmx (by kernel_rfl) ⟨none, rfl⟩ (HS3.out _ (Below.refl _ _).drew) (fun hHeld => ?_)
  refine wpAnyH_take (i := 0) (v := .pointer (some ⟨d, 0, none⟩)) rfl (by kernel_rfl) (by kernel_rfl) (by kernel_rfl) (fun _ _ _ h => absurd h.1 (by simp)) (Or.inl ⟨by rfl, fun w hSw => by obtain ⟨k0, b0, b1, b2, b3, b4, b5, b6, q0, q1, q2, q3, q4, q5, q6, q7, q8, q9⟩ := hSw; go_simp⟩) hHeld ?_
  try simp only [Act.put, List.getElem_toArray, List.getElem_cons_succ, List.getElem_cons_zero, List.setIfInBounds_toArray, List.set_cons_zero, List.set_cons_succ]
  refine wpAnyH_take (i := 1) (v := .agg #[.int .i64 id, .int .i64 fi, .int .i64 te, .int .i64 ht, .int .i64 hv, .int .i64 hc, .slice a l.length c]) rfl (by kernel_rfl) (by kernel_rfl) (by kernel_rfl) (fun _ _ _ h => absurd h.1 (by simp)) (Or.inl ⟨by rfl, fun w hSw => by obtain ⟨k0, b0, b1, b2, b3, b4, b5, b6, q0, q1, q2, q3, q4, q5, q6, q7, q8, q9⟩ := hSw; go_simp⟩) hHeld ?_
  try simp only [Act.put, List.getElem_toArray, List.getElem_cons_succ, List.getElem_cons_zero, List.setIfInBounds_toArray, List.set_cons_zero, List.set_cons_succ]
  refine wpAnyH_take (i := 2) (v := .agg #[.int .i64 pg, .int .i64 pk, .slice pa plen pcap, .int .i64 pht, .int .i64 phv, .int .i64 phc, .int .i64 pi, .int .i64 pt, .bool pm, .bool ph]) rfl (by kernel_rfl) (by kernel_rfl) (by kernel_rfl) (fun _ _ _ h => absurd h.1 (by simp)) (Or.inl ⟨by rfl, fun w hSw => by obtain ⟨k0, b0, b1, b2, b3, b4, b5, b6, q0, q1, q2, q3, q4, q5, q6, q7, q8, q9⟩ := hSw; go_simp⟩) hHeld ?_
  try simp only [Act.put, List.getElem_toArray, List.getElem_cons_succ, List.getElem_cons_zero, List.setIfInBounds_toArray, List.set_cons_zero, List.set_cons_succ]
  refine wpAnyH_ready (rs := [3]) (by kernel_rfl) (by simp) ?_
  refine AllReadyH.cons rfl (fun K' hKK => ?_) AllReadyH.nil
  go_simp
  go_at_call 71
  refine (GD.out _ (Below.refl _ _).drew).mono ?_
  rintro e w7 ⟨a2, k2, rfl, hG7, hk7, hB7, hN7⟩
  have hB67 := bel2 (Below.refl w6.heap.size w6).drew hB7
  have HB7 := Lib.hid hB67
  have hl7 := HL6.out.below hB67
  have HG7 := Lib.hid hG7
  have HN7 := Lib.hid (show ∀ k, inBlkE a2 l2.length k → w6.heap.size ≤ k from fun k hk => hN7 k hk)
  have HK7 := Lib.hid hk7
  have HL7 := Lib.hid hl7
  clear hB7 hG7 hN7 hk7 hB67 hl7
  go_simp
  refine hKK.out _ _ (HS3.out _ HB7.out) (fun hHeld => ?_)
  clear hKK K'
  try simp only [Act.put, List.getElem_toArray, List.getElem_cons_succ, List.getElem_cons_zero, List.setIfInBounds_toArray, List.set_cons_zero, List.set_cons_succ]
  refine wpAnyH_take (i := 4) (v := .pointer (some ⟨d, 0, none⟩)) rfl (by kernel_rfl) (by kernel_rfl) (by kernel_rfl) (fun _ _ _ h => absurd h.1 (by simp)) (Or.inl ⟨by rfl, fun w hSw => by obtain ⟨k0, b0, b1, b2, b3, b4, b5, b6, q0, q1, q2, q3, q4, q5, q6, q7, q8, q9⟩ := hSw; go_simp⟩) hHeld ?_
  try simp only [Act.put, List.getElem_toArray, List.getElem_cons_succ, List.getElem_cons_zero, List.setIfInBounds_toArray, List.set_cons_zero, List.set_cons_succ]
  refine wpAnyH_take (i := 5) (v := .pointer (some ⟨d, 0, none⟩)) rfl (by kernel_rfl) (by kernel_rfl) (by kernel_rfl) (fun _ _ _ h => absurd h.1 (by simp)) (Or.inl ⟨by rfl, fun w hSw => by obtain ⟨k0, b0, b1, b2, b3, b4, b5, b6, q0, q1, q2, q3, q4, q5, q6, q7, q8, q9⟩ := hSw; go_simp⟩) hHeld ?_
  try simp only [Act.put, List.getElem_toArray, List.getElem_cons_succ, List.getElem_cons_zero, List.setIfInBounds_toArray, List.set_cons_zero, List.set_cons_succ]
  refine wpAnyH_ready (rs := [6]) (by kernel_rfl) (by simp) ?_
  refine AllReadyH.cons rfl (fun K' hKK => ?_) AllReadyH.nil
  obtain ⟨d0, d1, d2, d3, d4, d5, d6, d7⟩ := cells8 HL7.out.1
  have g0 := frozen_of_row _ d 0 _ _ HL7.out.1
  have g1 := frozen_of_row _ d 1 _ _ HL7.out.1
  have g2 := frozen_of_row _ d 2 _ _ HL7.out.1
  have g3 := frozen_of_row _ d 3 _ _ HL7.out.1
  have g4 := frozen_of_row _ d 4 _ _ HL7.out.1
  have g5 := frozen_of_row _ d 5 _ _ HL7.out.1
  have g6 := frozen_of_row _ d 6 _ _ HL7.out.1
  go_simp
  clear d0 d1 d2 d3 d4 d5 d6 d7 g0 g1 g2 g3 g4 g5 g6
  change K' _ (st7 w7 d (.int .i64 id2) (.int .i64 fi2) (.int .i64 te2) (.int .i64 ht2) (.int .i64 hv2) (.int .i64 hc2) (.slice a2 l2.length k2))
  have HB8 := Lib.hid (st8_block HL7.out.1 (.int .i64 id2) (.int .i64 fi2) (.int .i64 te2) (.int .i64 ht2) (.int .i64 hv2) (.int .i64 hc2) (.slice a2 l2.length k2))
  have HF8 := Lib.hid (st7_frame w7 d (.int .i64 id2) (.int .i64 fi2) (.int .i64 te2) (.int .i64 ht2) (.int .i64 hv2) (.int .i64 hc2) (.slice a2 l2.length k2))
  generalize st7 w7 d (.int .i64 id2) (.int .i64 fi2) (.int .i64 te2) (.int .i64 ht2) (.int .i64 hv2) (.int .i64 hc2) (.slice a2 l2.length k2) = w8 at *
  have hdd : d < W.heap.size := heap_lt HAE.out.1
  have hSz6 : W.heap.size + 4 ≤ w6.heap.size := by have := HXB.out; have := heap_lt HBB.out; omega
  have HSz6 := Lib.hid hSz6
  have HXL := Lib.hid (heap_lt HBB.out)
  refine hKK.out _ _ (doS_of (HF8.out.get ((HB7.out.block _ (heap_lt HLB6.out)).trans HLB6.out) (by omega)) (HF8.out.get ((HB7.out.block _ (heap_lt HBB.out)).trans HBB.out) (by have := HXB.out; omega)) (HF8.out.get ((HB7.out.block _ (heap_lt HPB6.out)).trans HPB6.out) (by omega))) (fun hHeld => ?_)
  clear hKK K'
  try simp only [Act.put, List.getElem_toArray, List.getElem_cons_succ, List.getElem_cons_zero, List.setIfInBounds_toArray, List.set_cons_zero, List.set_cons_succ]
  refine wpAnyH_done (by kernel_rfl) ?_ _
  refine onlyNormal_mk ?_
  have hl8 : LogAt w8 d m ⟨id2, fi2, te2, ht2, hv2, hc2, l2⟩ a2 k2 F := ⟨HB8.out, HL7.out.2.1.frame HF8.out (fun e => hmd e), hasG_p HG7.out HF8.out (fun k hk e => by have := HN7.out k hk; omega), HK7.out⟩
  have HL8 := Lib.hid hl8
  have hr8 : RowV w8 a l.length 3 (entryCells l) := rowV_frame HL7.out.2.2.1.2 HF8.out (fun k hk e => rowV_not_d HAE.out.1 HAE.out.2.2.1.2 k hk e)
  have HR8 := Lib.hid hr8
  have HP8 := Lib.hid (show HasE w8 ⟨pg, pk, pa, plen, pcap, pht, phv, phc, pi, pt, pm, ph⟩ pl from hasE_p (HPE6.out.below HB7.out) HF8.out (fun k hk e => rowV_not_d HAE.out.1 (hasE_row HPE0.out) k hk e))
  clear hl8 hr8 hHeld
  have HLB8 := Lib.hid (HF8.out.get ((HB7.out.block _ (heap_lt HLB6.out)).trans HLB6.out) (by omega))
  have HBB8 := Lib.hid (HF8.out.get ((HB7.out.block _ (heap_lt HBB.out)).trans HBB.out) (by have := HXB.out; omega))
  have HPB8 := Lib.hid (HF8.out.get ((HB7.out.block _ (heap_lt HPB6.out)).trans HPB6.out) (by omega))
  have HAB8 := Lib.hid (HF8.out.get ((HB7.out.block _ (heap_lt HAB6.out)).trans HAB6.out) (by omega))
  have HW8 := Lib.hid (((FrameT.below HW6.out).trans (FrameT.below (HB7.out))).trans HF8.out)
  have HS8 := Lib.hid (show w6.heap.size ≤ w8.heap.size from Nat.le_trans HB7.out.size HF8.out.size)
  gi_wp2
  refine wpIn_of_heldP (S := (fun W' => W'.cell? ⟨W.heap.size, 0, none⟩ = some (.pointer (some ⟨d, 0, none⟩)) ∧ W'.cell? ⟨Xb, 6, none⟩ = some (.slice a l.length c) ∧ W'.cell? ⟨d, 6, none⟩ = some (.slice a2 l2.length k2))) hmx (by kernel_rfl) ⟨none, rfl⟩ ⟨cell_of_row _ _ 0 _ _ _ HLB8.out, cell_of_row _ _ 6 _ _ _ HBB8.out, (cells8 HL8.out.1).2.2.2.2.2.2.1⟩ (fun hHeld => ?_)
  refine wpAnyH_take (i := 0) (v := .pointer (some ⟨Xb, 6, none⟩)) rfl (by kernel_rfl) (by kernel_rfl) (by kernel_rfl) (fun _ _ _ h => absurd h.1 (by simp)) (Or.inl ⟨by rfl, fun w hSw => by obtain ⟨k0, b6, d6⟩ := hSw; go_simp⟩) hHeld ?_
  try simp only [Act.put, List.getElem_toArray, List.getElem_cons_succ, List.getElem_cons_zero, List.setIfInBounds_toArray, List.set_cons_zero, List.set_cons_succ]
  refine wpAnyH_take (i := 1) (v := .slice a l.length c) rfl (by kernel_rfl) (by kernel_rfl) (by kernel_rfl) (fun _ _ _ h => absurd h.1 (by simp)) (Or.inl ⟨by rfl, fun w hSw => by obtain ⟨k0, b6, d6⟩ := hSw; go_simp⟩) hHeld ?_
  try simp only [Act.put, List.getElem_toArray, List.getElem_cons_succ, List.getElem_cons_zero, List.setIfInBounds_toArray, List.set_cons_zero, List.set_cons_succ]
  refine wpAnyH_take (i := 2) (v := .pointer (some ⟨d, 0, none⟩)) rfl (by kernel_rfl) (by kernel_rfl) (by kernel_rfl) (fun _ _ _ h => absurd h.1 (by simp)) (Or.inl ⟨by rfl, fun w hSw => by obtain ⟨k0, b6, d6⟩ := hSw; go_simp⟩) hHeld ?_
  try simp only [Act.put, List.getElem_toArray, List.getElem_cons_succ, List.getElem_cons_zero, List.setIfInBounds_toArray, List.set_cons_zero, List.set_cons_succ]
  refine wpAnyH_take (i := 3) (v := .pointer (some ⟨d, 0, none⟩)) rfl (by kernel_rfl) (by kernel_rfl) (by kernel_rfl) (fun _ _ _ h => absurd h.1 (by simp)) (Or.inl ⟨by rfl, fun w hSw => by obtain ⟨k0, b6, d6⟩ := hSw; go_simp⟩) hHeld ?_
  try simp only [Act.put, List.getElem_toArray, List.getElem_cons_succ, List.getElem_cons_zero, List.setIfInBounds_toArray, List.set_cons_zero, List.set_cons_succ]
  refine wpAnyH_take (i := 4) (v := .pointer (some ⟨d, 0, none⟩)) rfl (by kernel_rfl) (by kernel_rfl) (by kernel_rfl) (fun _ _ _ h => absurd h.1 (by simp)) (Or.inl ⟨by rfl, fun w hSw => by obtain ⟨k0, b6, d6⟩ := hSw; go_simp⟩) hHeld ?_
  try simp only [Act.put, List.getElem_toArray, List.getElem_cons_succ, List.getElem_cons_zero, List.setIfInBounds_toArray, List.set_cons_zero, List.set_cons_succ]
  refine wpAnyH_take (i := 5) (v := .pointer (some ⟨d, 6, none⟩)) rfl (by kernel_rfl) (by kernel_rfl) (by kernel_rfl) (fun _ _ _ h => absurd h.1 (by simp)) (Or.inl ⟨by rfl, fun w hSw => by obtain ⟨k0, b6, d6⟩ := hSw; go_simp⟩) hHeld ?_
  try simp only [Act.put, List.getElem_toArray, List.getElem_cons_succ, List.getElem_cons_zero, List.setIfInBounds_toArray, List.set_cons_zero, List.set_cons_succ]
  refine wpAnyH_take (i := 6) (v := .slice a2 l2.length k2) rfl (by kernel_rfl) (by kernel_rfl) (by kernel_rfl) (fun _ _ _ h => absurd h.1 (by simp)) (Or.inl ⟨by rfl, fun w hSw => by obtain ⟨k0, b6, d6⟩ := hSw; go_simp⟩) hHeld ?_
  try simp only [Act.put, List.getElem_toArray, List.getElem_cons_succ, List.getElem_cons_zero, List.setIfInBounds_toArray, List.set_cons_zero, List.set_cons_succ]
  refine wpAnyH_ready (rs := [7]) (by kernel_rfl) (by simp) ?_
  refine AllReadyH.cons rfl (fun K' hKK => ?_) AllReadyH.nil
  go_simp
  go_at_call 72
  refine (gon_any _ _ _ _ _ _ _).mono ?_
  rintro e w10 ⟨rfl, hw10⟩
  have hB10 : Below w8.heap.size w8 w10 := by rw [hw10]; exact bel_alloc (bel_alloc (Below.refl w8.heap.size w8).drew _) _
  have hz10 : w10.heap.size = w8.heap.size + 2 := by rw [hw10]; simp
  have hba : w10.heap[w8.heap.size]? = some (.cells #[.slice a l.length c] 37 (0, 0)) := by rw [hw10]; exact two_a w8.drew _ _ _ _
  have hbb : w10.heap[w8.heap.size + 1]? = some (.cells #[.slice a2 l2.length k2] 37 (0, 0)) := by rw [hw10]; exact two_b w8.drew _ _ _ _
  clear hw10
  go_simp
  refine hKK.out _ _ ⟨cell_of_row _ _ 0 _ _ _ ((hB10.block _ (heap_lt HLB8.out)).trans HLB8.out), cell_of_row _ _ 6 _ _ _ ((hB10.block _ (heap_lt HBB8.out)).trans HBB8.out), (cells8 ((hB10.block _ (heap_lt HL8.out.1)).trans HL8.out.1)).2.2.2.2.2.2.1⟩ (fun hHeld => ?_)
  clear hKK K'
  try simp only [Act.put, List.getElem_toArray, List.getElem_cons_succ, List.getElem_cons_zero, List.setIfInBounds_toArray, List.set_cons_zero, List.set_cons_succ]
  refine wpAnyH_done (by kernel_rfl) ?_ _
  refine onlyNormal_mk ?_
  clear hHeld
  have HI10 := Lib.hid (gon_iter w8.heap.size (w8.heap.size + 1) a a2 c k2 l l2 (by have := H30.out; omega) H31.out HRI.out HRI2.out (fun k => k = w8.heap.size ∨ k = w8.heap.size + 1 ∨ inBlkE a l.length k ∨ inBlkE a2 l2.length k) (.inl rfl) (.inr (.inl rfl)) (fun k hk => .inr (.inr (.inl hk))) (fun k hk => .inr (.inr (.inr hk))) w10 (cell_of_row _ _ 0 _ _ _ hba) (cell_of_row _ _ 0 _ _ _ hbb) (HR8.out.below hB10) (HL8.out.2.2.1.2.below hB10))
  gi_wp2
  have hm8 : m < w8.heap.size := HL8.out.2.1.lt
  have hd8 : d < w8.heap.size := heap_lt HL8.out.1
  have HM10 := Lib.hid (show m < w10.heap.size from by omega)
  have HW10 := Lib.hid hB10
  have HNS := Lib.hid (show ∀ k, (fun k => k = w8.heap.size ∨ k = w8.heap.size + 1 ∨ inBlkE a l.length k ∨ inBlkE a2 l2.length k) k → k ≠ m from fun k hk => by
    rcases hk with h | h | h | h
    · omega
    · omega
    · exact rowV_not_m HL8.out.2.1 HR8.out k h
    · exact rowV_not_m HL8.out.2.1 HL8.out.2.2.1.2 k h)
  have HLS := Lib.hid (show ∀ k, (fun k => k = w8.heap.size ∨ k = w8.heap.size + 1 ∨ inBlkE a l.length k ∨ inBlkE a2 l2.length k) k → k < w10.heap.size from fun k hk => by
    rcases hk with h | h | h | h
    · omega
    · omega
    · have := inBlkE_lt HR8.out h; omega
    · have := inBlkE_lt HL8.out.2.2.1.2 h; omega)
  have HWF := Lib.hid (gonL_wf (a := l2) (sprB_iff.1 HFI.out.2.2).1)
  have HWF2 := Lib.hid (brgL_wf (g := ⟨id2, fi2, te2, ht2, hv2, hc2, l2⟩) (p := ⟨pg, pk, pa, plen, pcap, pht, phv, phc, pi, pt, pm, ph⟩) (pl := pl) (fi := fi) (sprB_iff.1 HFI2.out.2.2).1)
  have HZ10 := Lib.hid hz10
  clear hz10 hm8 hd8 hba hbb hB10 hdd hSz6
  refine range_outer rfl (enters_of Try.func96 (by kernel_rfl) rfl) HI10.out (fun _ => rfl) HLS.out (fun _ h => h.elim)
    (fun pre W' => runM w10 m (delAll F pre) W') (fun _ _ _ => False) (fun _ => runM_stab (Nat.le_refl _) HM10.out) (fun _ _ => Stab.pure _) ⟨HL8.out.2.1.below HW10.out, FrameT.refl _ _⟩ ?hr ?hd (fun _ _ _ _ _ _ h => h.elim)
  case hr =>
    rintro L pre x suf W1 hx hl' hrun hrec
    have HXW := Lib.hid (HWF.out x (by rw [hx]; simp))
    gi_wp2
    refine rdThen_mk _ (runM_stab (Nat.le_refl _) HM10.out) hrun (Rd.refl _ _ _) ?_
    clear hrun hrec hx W1
    rintro W1 ⟨hM, hF⟩ hrec
    have kl := cell_of_row _ _ 0 _ _ _ (hF.get ((HW10.out.block _ (heap_lt HLB8.out)).trans HLB8.out) (by have := HAE.out.2.1.lt; omega))
    obtain ⟨d0, d1, d2, d3, d4, d5, d6, d7⟩ := cells8 (hF.get ((HW10.out.block _ (heap_lt HL8.out.1)).trans HL8.out.1) (fun e => hmd e.symm))
    have HM := Lib.hid hM
    have HF := Lib.hid hF
    clear hM hF d0 d1 d2 d3 d4 d5 d6
    gi_wp2_with (gi_at_delete; refine wpListIn_delete_own _ rfl _ _ 122 3 rfl 34 lawP Try.underlying122 plcElem m _ (pmap (delAll F pre)) rfl HM.out _ _ rfl (Maps.keyOf_int_mk Try.underlying3 HXW.out) ?_; intro w2 hown2 hturn2)
    have hF2 := turned_frame hturn2
    refine ⟨runM_rd hF2 HM10.out HNS.out, ?_, HF.out.trans hF2⟩
    rw [delAll_snoc]
    exact HasPl.del x hown2
  case hd =>
    rintro w11 ⟨hM, hF⟩ hD
    have HM11 := Lib.hid hM
    have HF11 := Lib.hid hF
    have HD1 := Lib.hid hD
    have hb11 : ∀ {k o}, w8.heap[k]? = some o → k ≠ m → w11.heap[k]? = some o := fun h hk => HF11.out.get ((HW10.out.block _ (heap_lt h)).trans h) hk
    have hml := HAE.out.2.1.lt
    have HL11 := Lib.hid (show LogG w11 d m ⟨id2, fi2, te2, ht2, hv2, hc2, l2⟩ a2 k2 from ⟨hb11 HL8.out.1 (fun e => hmd e.symm), hasG_p (hasG_p HL8.out.2.2.1 (FrameT.below (T := fun k => k = m) HW10.out) (fun k hk => rowV_not_m HL8.out.2.1 HL8.out.2.2.1.2 k hk)) HF11.out (fun k hk => rowV_not_m HL8.out.2.1 HL8.out.2.2.1.2 k hk)⟩)
    have HP11 := Lib.hid (show HasE w11 ⟨pg, pk, pa, plen, pcap, pht, phv, phc, pi, pt, pm, ph⟩ pl from hasE_p (HP8.out.below HW10.out) HF11.out (fun k hk => rowV_not_m HL8.out.2.1 (hasE_row HP8.out) k hk))
    have HLB11 := Lib.hid (hb11 HLB8.out (by omega))
    have HBB11 := Lib.hid (hb11 HBB8.out (by have := HXB.out; omega))
    have HPB11 := Lib.hid (hb11 HPB8.out (by omega))
    have HAB11 := Lib.hid (hb11 HAB8.out (by omega))
    have kl := cell_of_row _ _ 0 _ _ _ HLB11.out
    obtain ⟨q0, q1, q2, q3, q4, q5, q6, q7, q8, q9⟩ := arr10p HPB11.out
    have b1 : w11.cell? ⟨Xb, 1, none⟩ = some (.int .i64 fi) := cell_of_row _ _ 1 _ _ _ HBB11.out
    clear hM hF hD hb11 hml
    gi_wp2_with (gi_at_call 73; refine (callsIn_wide.2 (brg_any d pg pk pa plen pcap pht phv phc pi pt pm ph fi w11)).mono ?_; rintro e w12 ⟨rfl, hw12⟩; have HW12 := Lib.hid hw12; clear hw12)
    have HB12 := Lib.hid (show Below w11.heap.size w11 w12 from by rw [HW12.out]; exact bel_alloc (bel_alloc (bel_alloc (Below.refl w11.heap.size w11) _) _) _)
    have HZ12 := Lib.hid (show w12.heap.size = w11.heap.size + 3 from by rw [HW12.out]; simp)
    have hb3 := boxes3p w11 #[.pointer (some ⟨d, 0, none⟩)] #[.int .i64 pg, .int .i64 pk, .slice pa plen pcap, .int .i64 pht, .int .i64 phv, .int .i64 phc, .int .i64 pi, .int .i64 pt, .bool pm, .bool ph] #[.int .i64 fi] 91 41 3
    rw [← HW12.out] at hb3
    have hml := HL8.out.2.1.lt
    have hdl := heap_lt HL8.out.1
    have hz8 : w8.heap.size + 2 ≤ w11.heap.size := by have := HF11.out.size; have := HZ10.out; omega
    have HI12 := Lib.hid (brg_iter (w11.heap.size + 1) w11.heap.size (w11.heap.size + 1 + 1) d m ⟨id2, fi2, te2, ht2, hv2, hc2, l2⟩ a2 k2 pg pk pa plen pcap pht phv phc pi pt pm ph pl fi (fun k => w11.heap.size ≤ k ∧ k < w12.heap.size ∨ k = d ∨ inBlkE a2 l2.length k ∨ inBlkE pa pl.length k) (.inl (by have := HZ12.out; omega)) (.inl (by have := HZ12.out; omega)) (.inl (by have := HZ12.out; omega)) (.inr (.inl rfl)) (fun k hk => .inr (.inr (.inl hk))) (fun k hk => .inr (.inr (.inr hk))) w12 hb3.2.1 hb3.1 hb3.2.2 (HL11.out.below HB12.out) HRI2.out HFI2.out.1.2.1 (HP11.out.below HB12.out))
    have HNS2 := Lib.hid (show ∀ k, (w11.heap.size ≤ k ∧ k < w12.heap.size ∨ k = d ∨ inBlkE a2 l2.length k ∨ inBlkE pa pl.length k) → k ≠ m from fun k hk => by
      rcases hk with h | h | h | h
      · omega
      · rw [h]; exact fun e => hmd e.symm
      · exact rowV_not_m HL8.out.2.1 HL8.out.2.2.1.2 k h
      · exact rowV_not_m HL8.out.2.1 (hasE_row HP8.out) k h)
    have HLS2 := Lib.hid (show ∀ k, (w11.heap.size ≤ k ∧ k < w12.heap.size ∨ k = d ∨ inBlkE a2 l2.length k ∨ inBlkE pa pl.length k) → k < w12.heap.size from fun k hk => by
      have := HZ12.out
      rcases hk with h | h | h | h
      · omega
      · omega
      · have := inBlkE_lt HL8.out.2.2.1.2 h; omega
      · have := inBlkE_lt (hasE_row HP8.out) h; omega)
    have HM12 := Lib.hid (show m < w12.heap.size from by have := HZ12.out; omega)
    clear hb3 hml hdl hz8 kl q0 q1 q2 q3 q4 q5 q6 q7 q8 q9 b1
    gi_wp2
    refine range_outer rfl (enters_of Try.func97 (by kernel_rfl) rfl) HI12.out (fun _ => rfl) HLS2.out (fun _ h => h.elim)
      (fun pre W' => runM w12 m (putAll s t (delAll F (gonL l l2)) pre) W') (fun _ _ _ => False) (fun _ => runM_stab (Nat.le_refl _) HM12.out) (fun _ _ => Stab.pure _) ⟨HM11.out.below HB12.out, FrameT.refl _ _⟩ ?hr ?hd (fun _ _ _ _ _ _ h => h.elim)
    case hr =>
      rintro L pre x suf W1 hx hl' hrun hrec
      have HXW := Lib.hid (HWF2.out x (by rw [hx]; simp))
      have HPR := Lib.hid (show pre.length ≤ pl.length + 2 from by have h1 := congrArg List.length hx; have h2 := brgL_len ⟨id2, fi2, te2, ht2, hv2, hc2, l2⟩ ⟨pg, pk, pa, plen, pcap, pht, phv, phc, pi, pt, pm, ph⟩ pl fi; rw [List.length_append] at h1; omega)
      gi_wp2
      refine rdThen_mk _ (runM_stab (Nat.le_refl _) HM12.out) hrun (Rd.refl _ _ _) ?_
      clear hrun hrec hx W1
      rintro W1 ⟨hM, hF⟩ hrec
      have kl := cell_of_row _ _ 0 _ _ _ (hF.get ((HB12.out.block _ (heap_lt HLB11.out)).trans HLB11.out) (by have := HAE.out.2.1.lt; omega))
      have ka0 := cell_of_row _ _ 0 _ _ _ (hF.get ((HB12.out.block _ (heap_lt HAB11.out)).trans HAB11.out) (by have := HAE.out.2.1.lt; omega))
      have ka1 := cell_of_row _ _ 1 _ _ _ (hF.get ((HB12.out.block _ (heap_lt HAB11.out)).trans HAB11.out) (by have := HAE.out.2.1.lt; omega))
      obtain ⟨d0, d1, d2, d3, d4, d5, d6, d7⟩ := cells8 (hF.get ((HB12.out.block _ (heap_lt HL11.out.1)).trans HL11.out.1) (fun e => hmd e.symm))
      have HM := Lib.hid hM
      have HF := Lib.hid hF
      clear hM hF d0 d1 d2 d3 d4 d5 d6
      gi_wp2
      refine wpIn_of_heldP (S := (fun W' => W'.cell? ⟨W.heap.size, 0, none⟩ = some (.pointer (some ⟨d, 0, none⟩)) ∧ W'.cell? ⟨d, 7, none⟩ = some (.map (some m)) ∧ W'.cell? ⟨W.heap.size + 1 + 1, 0, none⟩ = some (.int .i64 s) ∧ W'.cell? ⟨W.heap.size + 1 + 1, 1, none⟩ = some (.int .i64 t))) hmx (by kernel_rfl) ⟨_, rfl⟩ ⟨kl, d7, ka0, ka1⟩ (fun hHeld => ?_)
      refine wpAnyH_take (i := 0) (v := .pointer (some ⟨d, 0, none⟩)) rfl (by kernel_rfl) (by kernel_rfl) (by kernel_rfl) (fun _ _ _ h => absurd h.1 (by simp)) (Or.inl ⟨by rfl, fun w hSw => by obtain ⟨k0, d7, a0, a1⟩ := hSw; go_simp⟩) hHeld ?_
      try simp only [Act.put, List.getElem_toArray, List.getElem_cons_succ, List.getElem_cons_zero, List.setIfInBounds_toArray, List.set_cons_zero, List.set_cons_succ]
      refine wpAnyH_take (i := 1) (v := .pointer (some ⟨d, 0, none⟩)) rfl (by kernel_rfl) (by kernel_rfl) (by kernel_rfl) (fun _ _ _ h => absurd h.1 (by simp)) (Or.inl ⟨by rfl, fun w hSw => by obtain ⟨k0, d7, a0, a1⟩ := hSw; go_simp⟩) hHeld ?_
      try simp only [Act.put, List.getElem_toArray, List.getElem_cons_succ, List.getElem_cons_zero, List.setIfInBounds_toArray, List.set_cons_zero, List.set_cons_succ]
      refine wpAnyH_take (i := 2) (v := .pointer (some ⟨d, 7, none⟩)) rfl (by kernel_rfl) (by kernel_rfl) (by kernel_rfl) (fun _ _ _ h => absurd h.1 (by simp)) (Or.inl ⟨by rfl, fun w hSw => by obtain ⟨k0, d7, a0, a1⟩ := hSw; go_simp⟩) hHeld ?_
      try simp only [Act.put, List.getElem_toArray, List.getElem_cons_succ, List.getElem_cons_zero, List.setIfInBounds_toArray, List.set_cons_zero, List.set_cons_succ]
      refine wpAnyH_take (i := 3) (v := .map (some m)) rfl (by kernel_rfl) (by kernel_rfl) (by kernel_rfl) (fun _ _ _ h => absurd h.1 (by simp)) (Or.inl ⟨by rfl, fun w hSw => by obtain ⟨k0, d7, a0, a1⟩ := hSw; go_simp⟩) hHeld ?_
      try simp only [Act.put, List.getElem_toArray, List.getElem_cons_succ, List.getElem_cons_zero, List.setIfInBounds_toArray, List.set_cons_zero, List.set_cons_succ]
      refine wpAnyH_take (i := 4) (v := .int .i64 x) rfl (by kernel_rfl) (by kernel_rfl) (by kernel_rfl) (fun _ _ _ h => absurd h.1 (by simp)) (Or.inl ⟨by rfl, fun w hSw => by obtain ⟨k0, d7, a0, a1⟩ := hSw; go_simp⟩) hHeld ?_
      try simp only [Act.put, List.getElem_toArray, List.getElem_cons_succ, List.getElem_cons_zero, List.setIfInBounds_toArray, List.set_cons_zero, List.set_cons_succ]
      refine wpAnyH_take (i := 5) (v := .agg #[.int .i64 s, .int .i64 t]) rfl (by kernel_rfl) (by kernel_rfl) (by kernel_rfl) (fun _ _ _ h => absurd h.1 (by simp)) (Or.inl ⟨by rfl, fun w hSw => by obtain ⟨k0, d7, a0, a1⟩ := hSw; go_simp⟩) hHeld ?_
      try simp only [Act.put, List.getElem_toArray, List.getElem_cons_succ, List.getElem_cons_zero, List.setIfInBounds_toArray, List.set_cons_zero, List.set_cons_succ]
      refine wpAnyH_ready (rs := [6]) (by kernel_rfl) (by simp) ?_
      refine AllReadyH.cons rfl (fun K' hKK => ?_) AllReadyH.nil
      obtain ⟨w5, hrun5, hown5, hturn5⟩ := (World.ownsMap.drew HM.out).store lawP Try.underlying122 (show _ < maxLen from by have h1 := delAll_len (gonL l l2) F; have h2 := putAll_len s t pre (delAll F (gonL l l2)); have := HFL.out; have := HPR.out; have := HPE0.out.2.1; have := HPE0.out.1; unfold maxLen; omega) (Maps.keyOf_int_mk Try.underlying3 HXW.out) (show plcElem (.agg #[.int .i64 s, .int .i64 t]) = _ from rfl)
      have hF5 := turned_frame hturn5
      have HF5 := Lib.hid (show FrameT (fun k => k = m) W1 w5 from ⟨hF5.os, hF5.tape, hF5.output, hF5.size, hF5.block⟩)
      have HM5 := Lib.hid (show HasPl w5 m (putAll s t (delAll F (gonL l l2)) (pre ++ [x])) from by rw [putAll_snoc]; exact HasPl.put ⟨x, s, t⟩ hown5)
      clear hF5 hown5 hturn5
      go_simp
      have hF25 := HF.out.trans HF5.out
      refine hKK.out _ _ ⟨cell_of_row _ _ 0 _ _ _ (hF25.get ((HB12.out.block _ (heap_lt HLB11.out)).trans HLB11.out) (by have := HAE.out.2.1.lt; omega)), (cells8 (hF25.get ((HB12.out.block _ (heap_lt HL11.out.1)).trans HL11.out.1) (fun e => hmd e.symm))).2.2.2.2.2.2.2, cell_of_row _ _ 0 _ _ _ (hF25.get ((HB12.out.block _ (heap_lt HAB11.out)).trans HAB11.out) (by have := HAE.out.2.1.lt; omega)), cell_of_row _ _ 1 _ _ _ (hF25.get ((HB12.out.block _ (heap_lt HAB11.out)).trans HAB11.out) (by have := HAE.out.2.1.lt; omega))⟩ (fun hHeld => ?_)
      clear hKK K'
      try simp only [Act.put, List.getElem_toArray, List.getElem_cons_succ, List.getElem_cons_zero, List.setIfInBounds_toArray, List.set_cons_zero, List.set_cons_succ]
      refine wpAnyH_done (by kernel_rfl) ?_ _
      refine onlyNormal_mk ?_
      clear hHeld hF25
      gi_wp2
      exact ⟨runM_rd HF5.out HM12.out HNS2.out, HM5.out, HF.out.trans HF5.out⟩
    case hd =>
      rintro W3 ⟨hM, hF⟩ hD
      have HM3 := Lib.hid hM
      have HF3 := Lib.hid hF
      clear hM hF
      have hD1 : W3.heap[w10.heap.size]? = some (.deferred (some [])) := HF3.out.get ((HB12.out.block _ (heap_lt HD1.out)).trans HD1.out) (by have := HM10.out; show ¬ w10.heap.size = m; omega)
      gi_wp2
      have hz := HZ12.out
      have hz2 := heap_lt HD1.out
      refine leave_two hD hD1 (by omega) (results_none rfl _ _ _) ⟨⟨_, rfl⟩, a2, k2, ?_⟩
      have hT : FrameT (fun k => k = m ∨ w10.heap.size ≤ k) w10 ((W3.putObj w12.heap.size (.deferred none)).putObj w10.heap.size (.deferred none)) :=
        ((((HF11.out.mono (fun k h => .inl h)).trans (FrameT.below HB12.out)).trans (HF3.out.mono (fun k h => .inl h))).trans (FrameT.putP W3 _ (.inr (by omega)))).trans (FrameT.putP _ _ (.inr (Nat.le_refl _)))
      have hT2 : FrameT (fun k => w10.heap.size ≤ k) W3 ((W3.putObj w12.heap.size (.deferred none)).putObj w10.heap.size (.deferred none)) :=
        (FrameT.putP W3 _ (show w10.heap.size ≤ w12.heap.size by omega)).trans (FrameT.putP _ _ (Nat.le_refl _))
      have hL10 := HL8.out.below HW10.out
      have hml := hL10.2.1.lt
      have hdl := heap_lt hL10.1
      have hW8 := HW8.out.trans (FrameT.below HW10.out)
      refine ⟨⟨hT.get hL10.1 (by have := hmd; show ¬ (d = m ∨ w10.heap.size ≤ d); omega), HM3.out.frame hT2 (by omega), hasG_p hL10.2.2.1 hT (fun k hk => ?_), hL10.2.2.2⟩, (hW8.mono (fun k h => .inl h)).farP hT (fun k hk => ?_)⟩
      · have h1 := rowV_not_m hL10.2.1 hL10.2.2.1.2 k hk
        have h2 := inBlkE_lt hL10.2.2.1.2 hk
        show ¬ (k = m ∨ w10.heap.size ≤ k)
        omega
      · rcases hk with h | h
        · exact .inl (.inr h)
        · exact .inr (Nat.le_trans hW8.size h)

end Go.Proofs.Ytdncdlbhgaehmaa
