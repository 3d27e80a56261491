/- The contract of a disk's Copy. -/
import Derived.Test.YtieekahlknmkfaaDskP
import Derived.Deep.RegionHeld3
namespace Go.Proofs.Ytieekahlknmkfaa
open Go.RowKit Go.Shelf
set_option linter.unusedVariables false
attribute [local go_sem] Oper.semAt_some wide_fn wide_round_fn

def risN (L : List PF) : Prop := L.Pairwise fun a b => bytesBefore a.n.data.toList b.n.data.toList = true
theorem HasDisk.ris {W : World} {B d m : Nat} {D : PD} {F : List FileC} (h : HasDisk W B d m D F) : risN D.L := by
  obtain ⟨es, he, hp, -⟩ := h.map.canon lawStr
  unfold dmap at he
  injection he with he
  subst he
  unfold risN
  rw [← h.core, List.pairwise_map]
  rw [List.pairwise_map] at hp
  exact hp
theorem before_no {a b : List UInt8} (h : bytesBefore a b = true) : bytesBefore b a = false := by
  cases e : bytesBefore b a with
  | false => rfl
  | true =>
    have := Go.WideShapes.bytes_trans _ _ _ h e
    rw [Go.WideAt.bytes_irrefl] at this; cases this
theorem before_ne {a b : ByteArray} (h : bytesBefore a.data.toList b.data.toList = true) : a ≠ b := fun e => by rw [e, Go.WideAt.bytes_irrefl] at h; cases h
theorem ins_head {x : PF} : ∀ {l : List PF}, (∀ z ∈ l, bytesBefore x.n.data.toList z.n.data.toList = true) → insK PF.n x l = x :: l
  | [], _ => rfl
  | z :: r, h => by
    show (if bytesBefore x.n.data.toList z.n.data.toList = true then x :: z :: r else z :: insK PF.n x r) = _
    rw [if_pos (h z List.mem_cons_self)]
theorem ins_filter {x : PF} {p : PF → Bool} (hp : p x = false) : ∀ {L : List PF}, risN L → x ∈ L → insK PF.n x (L.filter p) = L.filter fun y => p y || decide (y.n = x.n)
  | [], _, hx => by cases hx
  | y :: r, hL, hx => by
    obtain ⟨h1, h2⟩ := List.pairwise_cons.1 hL
    rw [List.filter_cons, List.filter_cons]
    rcases List.mem_cons.1 hx with rfl | hx
    · rw [hp, decide_eq_true rfl]
      simp only [Bool.or_true, if_true, Bool.false_eq_true, if_false]
      rw [ins_head (fun z hz => h1 z ((List.mem_filter.1 hz).1))]
      congr 1
      apply List.filter_congr
      intro z hz
      rw [decide_eq_false (fun e => before_ne (h1 z hz) e.symm), Bool.or_false]
    · have hyx := h1 x hx
      rw [decide_eq_false (before_ne hyx), Bool.or_false]
      cases hpy : p y
      · simp only [Bool.false_eq_true, if_false]
        exact ins_filter hp h2 hx
      · simp only [if_true]
        show (if bytesBefore x.n.data.toList y.n.data.toList = true then x :: y :: r.filter p else y :: insK PF.n x (r.filter p)) = _
        rw [before_no hyx, if_neg (by simp), ins_filter hp h2 hx]
theorem put_filter {x : PF} {p : PF → Bool} (hp : ∀ y, y.n = x.n → p y = false) {L : List PF} (hL : risN L) (hx : x ∈ L) : putK PF.n x (L.filter p) = L.filter fun y => p y || decide (y.n = x.n) := by
  unfold putK
  rw [show delK PF.n (L.filter p) x.n = L.filter p from by
    unfold delK
    rw [List.filter_eq_self]
    intro y hy
    have := (List.mem_filter.1 hy).2
    by_cases e : y.n = x.n
    · rw [hp y e] at this; cases this
    · simp [e]]
  exact ins_filter (hp x rfl) hL hx

theorem below_grown {a b : World} (h : Below a.heap.size a b) : a.grownBy b none := ⟨h.os, h.tape, h.output, h.size, fun k hk _ => h.block k hk⟩
theorem own_iter {W : World} {B d m k : Nat} {D : PD} {F : List FileC} (h : HasDisk W B d m D F) {mb : Option Nat} {s c : Nat} {z : Array Nat} (hk : W.heap[k]? = some (.mapIter mb s z c)) : ¬ ownD F d m k := by
  rintro (rfl | rfl | ⟨f, hf, rfl | hj⟩)
  · rw [h.cell] at hk; cases hk
  · obtain ⟨es, c, hm, -⟩ := h.map; rw [hm] at hk; cases hk
  · rw [(h.file f hf).1] at hk; cases hk
  · rcases (h.file f hf).2.1.2 with ⟨hv, _⟩ | ⟨g, cap, cur, fz, hv, _, hg, _⟩
    · rw [hv] at hj; cases hj
    · rw [hv] at hj
      obtain rfl : g = k := by simpa [Value.ownBlock] using hj
      rw [hg] at hk; cases hk
theorem copy_step {w1 w4 w5 : World} {B2 d2 m2 n' : Nat} {D' : PD} {G : List FileC} {f : FileC} {v' : Value} (h : HasDisk w1 B2 d2 m2 D' G) (hB4 : Below w1.heap.size w1 w4) (hown4 : w4.ownsRow w1.heap.size 5 1 v' f.b.length (f.b.map vb)) (hfk : f.k ≤ f.b.length) (hB2 : B2 ≤ w1.heap.size)
    (hm : w5.ownsMap Try.prog 9 ptrElem m2 n' ((dmap G).put (keyL f.n) (.lit (.int .i64 w4.heap.size)))) (hT : (w4.alloc (.cells #[v', .int .i64 f.k] 85)).mapTurned w5 m2) :
    HasDisk w5 B2 d2 m2 { D' with L := putK PF.n f.core D'.L } (putK FileC.n ⟨f.n, w4.heap.size, v', f.b, f.k⟩ G) := by
  have h4 := hB4.size
  have h2 := h.below (bel_alloc hB4 (.cells #[v', .int .i64 f.k] 85))
  have hF := frame_map hT.grown
  have hml := h.lt (k := m2) (.inr (.inl rfl))
  refine h2.put ⟨f.n, w4.heap.size, v', f.b, f.k⟩ (fun g hg _ => ⟨fun e => ?_, fun j hj e => ?_⟩) ⟨hF.get (World.alloc_heap_new _ _) (show ¬ w4.heap.size = m2 by omega), ?_, hfk⟩ hm hF (show B2 ≤ w4.heap.size by omega)
  · have e : g.fb = w4.heap.size := e
    have := h.lt (k := g.fb) (.inr (.inr ⟨g, hg, .inl rfl⟩))
    omega
  · have e : v'.ownBlock = some j := e
    have h5 := ownBlock_ge hown4 e
    have := h.lt (k := j) (.inr (.inr ⟨g, hg, .inr hj⟩))
    omega
  · refine ownsG_frame (ownsG_of (ownsRow_base (hown4.alloc _) hB2)) hF (fun j hj e => ?_)
    have e : j = m2 := e
    have := ownBlock_ge hown4 hj
    omega
theorem copy_arm {w1 w4 : World} {B2 d2 m2 : Nat} {D' : PD} {G : List FileC} (h : HasDisk w1 B2 d2 m2 D' G) (hB4 : Below w1.heap.size w1 w4) {s : ByteArray} (hs : s.size ≤ maxLen) (hGm : G.length < maxLen) (v' : Value) (k : Nat) :
    ∃ w5, (Instr.mapUpdate 79 (.map (some m2)) (.string s) (.pointer (some ⟨w4.heap.size, 0, none⟩))).run Try.prog (w4.alloc (.cells #[v', .int .i64 k] 85)) = .ok () w5 ∧ w5.ownsMap Try.prog 9 ptrElem m2 (G.length + 1) ((dmap G).put (keyL s) (.lit (.int .i64 w4.heap.size))) ∧ (w4.alloc (.cells #[v', .int .i64 k] 85)).mapTurned w5 m2 ∧
      (∀ p : Addr, p.block < w1.heap.size → p.block ≠ m2 → ∀ u, w1.cell? p = some u → w4.cell? p = some u ∧ w5.cell? p = some u) := by
  have hm : (w4.alloc (.cells #[v', .int .i64 k] 85)).ownsMap Try.prog 9 ptrElem m2 G.length (dmap G) := (ownsMap_frame h.map (FrameT.below (T := fun _ => False) hB4) id).alloc _
  obtain ⟨w5, h1, h2, h3⟩ := hm.store lawStr Try.underlying79 hGm (Go.WideMaps.keyOf_string_mk (s := s) Try.underlying9 hs) (ptr_some w4.heap.size)
  refine ⟨w5, h1, h2, h3, fun p hp hne u hu => ?_⟩
  have h4 := (hB4.cell hp).trans hu
  exact ⟨h4, (frame_map h3.grown).cell (((bel_alloc (Below.refl w4.heap.size w4) (.cells #[v', .int .i64 k] 85)).cell (Nat.lt_of_lt_of_le hp hB4.size)).trans h4) hne⟩
set_option maxRecDepth 100000 in
set_option maxHeartbeats 1000000 in
theorem copy_any {w : World} {B d m : Nat} {D : PD} {F : List FileC} (h : HasDisk w B d m D F) (hF : F.length ≤ 1000) (hu : usedL D.L ≤ 1000000000) :
    Calls Try.prog 17 #[.pointer (some ⟨d, 0, none⟩)] w fun e w' => e = .returned (.pointer (some ⟨w.heap.size, 0, none⟩)) ∧ ∃ G, HasDisk w' w.heap.size w.heap.size (w.heap.size + 1) D G ∧ Below w.heap.size w w' := by
  obtain ⟨c0, c1, c2, c3, c4⟩ := cells5 h.cell
  have hmap := h.map
  have hdl := h.lt (k := d) (.inl rfl)
  have HD := Lib.hid h
  have HU := Lib.hid hu
  have hmm := @run_makeMap Try.prog
  clear h hu
  go_enter Try.func17, Try.ntmps17
  have hA := bel_alloc (bel_alloc (Below.refl w.heap.size w) (.cells #[.map (some (w.heap.size + 1)), .int .i64 D.room, .int .i64 D.steps, .bool D.lim, .int .i64 D.left] 81)) (.map #[] 0)
  have e1 : ((w.alloc (.cells #[.map (some (w.heap.size + 1)), .int .i64 D.room, .int .i64 D.steps, .bool D.lim, .int .i64 D.left] 81)).alloc (.map #[] 0)).heap.size = w.heap.size + 2 := by simp
  have HN := Lib.hid (show HasDisk ((w.alloc (.cells #[.map (some (w.heap.size + 1)), .int .i64 D.room, .int .i64 D.steps, .bool D.lim, .int .i64 D.left] 81)).alloc (.map #[] 0)) w.heap.size w.heap.size (w.heap.size + 1) { D with L := [] } [] from
    { cell := (Below.heap_alloc _ _ _ (by simp)).trans (World.alloc_heap_new w _)
      map := by have := World.ownsMap_made (w.alloc (.cells #[.map (some (w.heap.size + 1)), .int .i64 D.room, .int .i64 D.steps, .bool D.lim, .int .i64 D.left] 81)) Try.prog 9 ptrElem; rw [World.size_alloc] at this; exact this
      file := fun f hf => by cases hf
      fbs := List.Pairwise.nil, rows := List.Pairwise.nil, nms := List.Pairwise.nil, core := rfl
      low := ⟨Nat.le_refl _, by omega, fun f hf => by cases hf⟩ })
  have HA := Lib.hid hA
  have HE1 := Lib.hid e1
  have HML := Lib.hid (HD.out.lt (k := m) (.inr (.inl rfl)))
  have hmap2 := (hmap.alloc (.cells #[.map (some (w.heap.size + 1)), .int .i64 D.room, .int .i64 D.steps, .bool D.lim, .int .i64 D.left] 81)).alloc (.map #[] 0)
  clear hA e1
  go_wp2_with (at_range; refine wpList_range_own _ rfl _ 79 rfl 9 82 lawStr Try.underlying79 ptrElem m F.length (dmap F) rfl hmap2 ?_; intro w0 hrg0 hg0 hs0)
  go_frame
  rw [HE1.out] at hrg0 hs0 ⊢
  go_loopw [] (fun wr => ∃ (left : Lit → Bool) (cnt : Nat) (G : List FileC), wr.ranges Try.prog 9 ptrElem m (w.heap.size + 2) F.length (dmap F) left cnt ∧ HasDisk wr w.heap.size w.heap.size (w.heap.size + 1) { D with L := D.L.filter fun p => !left (keyL p.n) } G ∧ Below w.heap.size w wr)
    (fun wr => wr.rangeLeft m (w.heap.size + 2))
  case atStart =>
    refine ⟨_, _, [], hrg0, ?_, HA.out.grown hg0 (by have := HE1.out; omega) (fun j hj => by cases hj)⟩
    have e : (D.L.filter fun p => !Maps.has (dmap F) (keyL p.n)) = [] := by
      rw [List.filter_eq_nil_iff]
      intro p hp
      rw [← HD.out.core] at hp
      obtain ⟨f, hf, rfl⟩ := List.mem_map.1 hp
      rw [show keyL (FileC.core f).n = Lit.string f.n.data.toList from rfl, dmap_has, getK_self HD.out.nms hf]; simp
    rw [e]
    exact HN.out.frame (frame_grown hg0) (fun k _ hk => by cases hk)
  case round =>
    obtain ⟨left, cnt, G, hrg, hG, hB⟩ := hrel
    have HB := Lib.hid hB
    have HG := Lib.hid hG
    clear hB hG
    go_wp2_with (at_next; refine wpList_next_files rfl _ rfl rfl hrg ?_ ?_)
    · intro hc0 hl0
      have HE := Lib.hid (show (D.L.filter fun p => !left (keyL p.n)) = D.L by rw [List.filter_eq_self]; intro p _; rw [hl0]; rfl)
      clear hc0 hl0
      go_wp2
      go_ret
      have := HG.out
      rw [HE.out] at this
      exact ⟨rfl, G, this, HB.out⟩
    · intro f w1 cnt1 hf hs hl hrg1 hlt hg1 hs1 hen
      have hB1 : Below w.heap.size w w1 := HB.out.grown hg1 HB.out.size (fun j hj => by cases hj; omega)
      have hG1 : HasDisk w1 w.heap.size w.heap.size (w.heap.size + 1) { D with L := D.L.filter fun p => !left (keyL p.n) } G := HG.out.frame (frame_grown hg1) (fun k hk e => by
        obtain ⟨es, clock, since, seen, z0, -, -, -, -, hr, -⟩ := hrg
        injection e with e
        rw [e] at hk
        exact own_iter HG.out hr hk)
      obtain ⟨hfc, hfr, hfk⟩ := (HD.out.below hB1).file f hf
      obtain ⟨a, cap, hv⟩ := own_sliceG hfr
      rw [hv] at hfc
      obtain ⟨k0, k1, -, -⟩ := cells2 hfc
      have q0 : w1.cell? ⟨w.heap.size, 0, none⟩ = some (.map (some (w.heap.size + 1))) := (cells5 hG1.cell).1
      have hfl : f.b.length ≤ 1000000000 := Nat.le_trans (by rw [← HD.out.core]; exact used_mem (f := f.core) (List.mem_map.2 ⟨f, hf, rfl⟩)) HU.out
      have GC := Lib.hid (clone_any (W := w1.drew) (v := .slice a f.b.length cap) (b := f.b) (show ownsG w1.drew B 5 1 (.slice a f.b.length cap) f.b.length (f.b.map vb) by rw [← hv]; exact hfr) hfl)
      have hGl : G.length ≤ 1000 := by
        rw [← List.length_map (f := FileC.core), hG1.core]
        exact Nat.le_trans (List.length_filter_le _ _) (by rw [← HD.out.core, List.length_map]; exact hF)
      have hGm : G.length < maxLen := by unfold maxLen; omega
      have hx1 : f.fb < w1.heap.size := Nat.lt_of_lt_of_le (HD.out.lt (k := f.fb) (.inr (.inr ⟨f, hf, .inl rfl⟩))) hB1.size
      have hx2 : w.heap.size < w1.heap.size := HG.out.lt (k := w.heap.size) (.inl rfl) |> fun h => by omega
      have hx3 : f.fb ≠ w.heap.size + 1 := by have := HD.out.lt (k := f.fb) (.inr (.inr ⟨f, hf, .inl rfl⟩)); omega
      have HG1 := Lib.hid hG1
      have HB1 := Lib.hid hB1
      have HR1 := Lib.hid hrg1
      have HFK := Lib.hid hfk
      have HM := Lib.hid (show cnt1 < wr.rangeLeft m (w.heap.size + 2) by rw [hrg.left_eq]; exact hlt)
      have HFL := Lib.hid hl
      have HF := Lib.hid hf
      clear hG1 hfc hfr hfk hv hB1 hg1 hs1 hrg1 hrg hlt hl hf c0 c1 c2 c3 c4 hmap hmap2 hg0 hs0 hrg0
      go_wp2
      go_region_held3 (fun W' => W'.cell? ⟨w.heap.size, 0, none⟩ = some (.map (some (w.heap.size + 1))) ∧ W'.cell? ⟨f.fb, 0, none⟩ = some (.slice a f.b.length cap) ∧ W'.cell? ⟨f.fb, 1, none⟩ = some (.int .i64 f.k)) (go_keep) (first
        | (go_at_call 49; (with_reducible refine GC.out.mono ?_); rintro e w4 ⟨v', rfl, hown4, hB4⟩; obtain ⟨a4, cap4, rfl⟩ := own_slice hown4; obtain ⟨w5, hrun5, hown5, hturn5, hcell5⟩ := copy_arm HG1.out ((Below.refl w1.heap.size w1).drew.trans hB4) hs hGm (.slice a4 f.b.length cap4) f.k; obtain ⟨t0, u0⟩ := hcell5 ⟨w.heap.size, 0, none⟩ hx2 (fun e => by have e : w.heap.size = w.heap.size + 1 := e; omega) _ q0; obtain ⟨t1, u1⟩ := hcell5 ⟨f.fb, 0, none⟩ hx1 hx3 _ k0; obtain ⟨t2, u2⟩ := hcell5 ⟨f.fb, 1, none⟩ hx1 hx3 _ k1; have hx4 := Nat.lt_of_lt_of_le hx1 hB4.size; have hx5 := Nat.lt_of_lt_of_le hx2 hB4.size; have H5 := Lib.hid (And.intro hown4 (And.intro hB4 (And.intro hown5 hturn5))); clear hown4 hB4 hown5 hturn5 hcell5))
      obtain ⟨hown4, hB4, hown5, hturn5⟩ := H5.out
      have hB4' : Below w1.heap.size w1 w4 := (Below.refl w1.heap.size w1).drew.trans hB4
      have hml := HML.out
      have hstep := Lib.hid (copy_step HG1.out hB4' hown4 HFK.out (Nat.le_of_lt hx2) hown5 hturn5)
      have hrg5 := Lib.hid (((HR1.out.kept (below_grown hB4') (by simp) (by simp)).alloc (.cells #[.slice a4 f.b.length cap4, .int .i64 f.k] 85)).kept hturn5.grown (fun e => by have := Option.some.inj e; omega) (fun e => by have := Option.some.inj e; omega))
      have hb5 := Lib.hid ((bel_alloc (bel2 HB1.out hB4') (.cells #[.slice a4 f.b.length cap4, .int .i64 f.k] 85)).grown hturn5.grown (by have h1 := hB4'.size; have h2 := HB1.out.size; simp; omega) (fun j hj => by have := Option.some.inj hj; omega))
      have HL2 := Lib.hid (show putK PF.n f.core (D.L.filter fun p => !left (keyL p.n)) = D.L.filter fun p => !(left (keyL p.n) && !(keyL p.n).sameKey (keyL f.n)) from by
        rw [put_filter (x := f.core) (p := fun p => !left (keyL p.n)) (fun y hy => by rw [hy, show keyL (FileC.core f).n = keyL f.n from rfl, HFL.out]; rfl) HD.out.ris (by rw [← HD.out.core]; exact List.mem_map.2 ⟨f, HF.out, rfl⟩)]
        apply List.filter_congr
        intro y _
        rw [same_name, Bool.not_and, Bool.not_not]
        rfl)
      clear hown4 hB4 hB4' hown5 hturn5 t0 u0 t1 u1 t2 u2 k0 k1 q0
      go_wp2
      go_roundw
      case rel => exact ⟨_, cnt1, _, hrg5.out, by have := hstep.out; dsimp only at this; rw [HL2.out] at this; exact this, hb5.out⟩
      case measure => rw [hrg5.out.left_eq]; exact HM.out

end Go.Proofs.Ytieekahlknmkfaa
