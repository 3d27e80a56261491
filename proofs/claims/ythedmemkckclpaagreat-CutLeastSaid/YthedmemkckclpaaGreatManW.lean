/- ManW, ManT, App7: in one text. -/
import Derived.Test.YthedmemkckclpaaGreatManD
import Derived.Test.YthedmemkckclpaaGreatRec
import Derived.Maps.AppendAt
/- (*Many).walk: a list of parts done, settled. -/
namespace Go.Proofs.YthedmemkckclpaaGreat
open Go.RowKit Go.Shelf
set_option linter.unusedVariables false
attribute [local go_sem] Oper.semAt_some wide_fn wide_round_fn

/-- Behind some rounds: the groups, the settled parts. -/
structure WalkJ (W : World) (C d m : Nat) (L : List GM) (ps : List PL) (v : Value) (F : List GV) (S : List PL) (wr : World) : Prop where
  man : ManAt wr d m F
  gs : F.map GV.g = manW L ps
  len : S.length = ps.length
  cores : S.map core = (manS L ps).map core
  row : wr.ownsRow C 30 10 v ps.length (partCells S)
  ents : ∀ x ∈ S, HasE wr x.1 x.2 ∧ ∀ k, inBlkE x.1.a x.1.len k → some k ≠ v.ownBlock
  grp : ∀ y ∈ F, ∀ k, inG y k → some k ≠ v.ownBlock
  bel : Below W.heap.size W wr
  low : W.heap.size ≤ d ∧ W.heap.size ≤ m ∧ d < C ∧ m < C
  top : C ≤ wr.heap.size
theorem infoPartM : (Tryz.prog.info? 30).map (fun i => (i.zero, i.size, i.bytes)) = some (some (.agg #[.int .i64 0, .int .i64 0, .slice none 0 0, .int .i64 0, .int .i64 0, .int .i64 0, .int .i64 0, .int .i64 0, .bool false, .bool false]), 10, 88) := by kernel_rfl
theorem getZ_gv (F : List GV) (s : Int) : (getZ GV.id F s).map GV.g = getZ GM.id (F.map GV.g) s := getZ_map (g := GV.g) (nm := GV.id) (nb := GM.id) (fun _ => rfl) F s
/-- What lies under a number, or is new. -/
def lookG (F : List GV) (s : Int) : Value := match getZ GV.id F s with | some x => x.val | none => (newG s).val none 0
def lookA (F : List GV) (s : Int) : Option Addr := match getZ GV.id F s with | some x => x.a | none => none
def lookC (F : List GV) (s : Int) : Nat := match getZ GV.id F s with | some x => x.c | none => 0
theorem manG_val (F : List GV) (s : Int) : lookG F s = (manG (F.map GV.g) s).val (lookA F s) (lookC F s) := by
  unfold lookG lookA lookC manG
  rw [← getZ_gv]
  cases getZ GV.id F s <;> rfl
theorem manG_has {W : World} {m : Nat} {F : List GV} (h : HasMap W m F) (s : Int) : HasG W (lookA F s) (manG (F.map GV.g) s) := by
  unfold lookA manG
  rw [← getZ_gv]
  cases e : getZ GV.id F s with
  | none => exact ⟨(by decide : 0 < 1000000), RowV.nil _ _ _⟩
  | some x => exact h.has x (getZ_some e).1
theorem getZ_isSome (F : List GV) (s : Int) : (getZ GV.id F s).isSome = (getZ GM.id (F.map GV.g) s).isSome := by
  rw [← getZ_gv]; cases getZ GV.id F s <;> rfl
theorem FrameT.far {T U : Nat → Prop} {w w1 w2 : World} (h : FrameT T w w1) (h2 : FrameT U w1 w2) (hU : ∀ k, U k → T k ∨ w.heap.size ≤ k) : FrameT T w w2 :=
  ⟨h2.os.trans h.os, h2.tape.trans h.tape, h2.output.trans h.output, Nat.le_trans h.size h2.size, fun k hk hT => (h2.block k (Nat.lt_of_lt_of_le hk h.size) (fun hu => by
    rcases hU k hu with h | h
    · exact hT h
    · omega)).trans (h.block k hk hT)⟩
theorem partCells_snocM (S : List PL) (q : PL) : partCells (S ++ [q]) = partCells S ++ q.1.arr.toList := by simp [partCells]
theorem hasE_frame {T : Nat → Prop} {W W' : World} {P : PartC} {l : List EntryC} (h : HasE W P l) (hF : FrameT T W W') (hne : ∀ k, inBlkE P.a P.len k → ¬ T k) : HasE W' P l := ⟨h.1, h.2.1, rowV_frame h.2.2 hF hne⟩
theorem inBlkM_lt {W : World} {a : Option Addr} {n sz : Nat} {xs : List Value} (h : RowV W a n sz xs) {k : Nat} (hk : inBlkE a n k) : k < W.heap.size := by
  obtain ⟨b, off, e, h0, rfl⟩ := hk
  obtain ⟨b', off', e', hb, _⟩ := h.2.2 h0
  rw [e] at e'; cases e'; exact hb
theorem ownBlock_ltM {W : World} {base : Nat} {e : TypeId} {size : Nat} {v : Value} {k : Nat} {xs : List Value} (h : W.ownsRow base e size v k xs) {j : Nat} (hj : some j = v.ownBlock) : base ≤ j ∧ j < W.heap.size := by
  rcases h.2 with ⟨rfl, _⟩ | ⟨g, cap, cur, rfl, hb, hg, _⟩
  · simp [Value.ownBlock] at hj
  · obtain rfl : j = g := by simpa [Value.ownBlock] using hj
    exact ⟨hb, (Array.getElem?_eq_some_iff.1 hg).1⟩
theorem frame_row {w w' : World} {row : Option Nat} (h : w.grownBy w' row) : FrameT (fun k => some k = row) w w' := ⟨h.os, h.tape, h.output, h.size, fun k hk hT => h.block k hk hT⟩
/-- Nothing in the map, the rows, turns where the settled row grows. -/
theorem walkJ_step {W : World} {C d m : Nat} {L : List GM} {ps : List PL} {v : Value} {F : List GV} {S : List PL} {wr : World} (hJ : WalkJ W C d m L ps v F S wr) (x : PL) {w8 w9 : World} {F2 : List GV} {q : PL} {v' : Value}
    (hT : FrameT (fun k => k = m) wr w8) (hM : ManAt w8 d m F2) (hF2 : F2.map GV.g = manD (manW L ps) x) (hnew : ∀ y ∈ F2, y ∈ F ∨ ∀ k, inG y k → wr.heap.size ≤ k)
    (hq : HasE w8 q.1 q.2) (hqn : ∀ k, inBlkE q.1.a q.1.len k → wr.heap.size ≤ k) (hqc : core q = core (setX (manW L ps) x)) (tmp : Obj)
    (hown : w9.ownsRow C 30 10 v' (ps.length + 1) (partCells S ++ q.1.arr.toList)) (hg : (w8.alloc tmp).grownBy w9 v.ownBlock) (hn : v'.ownBlock = v.ownBlock ∨ v'.ownBlock = some (w8.alloc tmp).heap.size) :
    WalkJ W C d m L (ps ++ [x]) v' F2 (S ++ [q]) w9 := by
  have hA : FrameT (fun k => some k = v.ownBlock) w8 w9 := (FrameT.below (bel_alloc (Below.refl w8.heap.size w8) tmp)).trans (frame_row hg)
  have hvb : ∀ k, some k = v.ownBlock → C ≤ k ∧ k < wr.heap.size := fun k hk => ownBlock_ltM hJ.row hk
  have hFS : ∀ y ∈ F2, ∀ k, inG y k → some k ≠ v.ownBlock := fun y hy k hk e => by
    rcases hnew y hy with h | h
    · exact hJ.grp y h k hk e
    · have := h k hk; have := (hvb k e).2; omega
  have hv' : ∀ k, k < w8.heap.size → some k ≠ v.ownBlock → some k ≠ v'.ownBlock := fun k hk h1 e => by
    rcases hn with hn | hn
    · exact h1 (e.trans hn)
    · rw [hn] at e; injection e with e; rw [World.size_alloc] at e; omega
  have hS8 : ∀ y ∈ S, HasE w8 y.1 y.2 := fun y hy => hasE_frame (hJ.ents y hy).1 hT (fun k hk e => by
    obtain ⟨es, clock, hb⟩ := hJ.man.2.block
    obtain ⟨b, off, ea, h0, rfl⟩ := hk
    obtain ⟨b', off', e', _, hc⟩ := (hJ.ents y hy).1.2.2.2.2 h0
    rw [ea] at e'
    cases e'
    have hl := (hJ.ents y hy).1.2.2.1
    have := hc 0 (by omega)
    rw [e] at this
    simp [World.cell?, hb] at this)
  exact
  { man := ⟨hA.get hM.1 (fun e => by have := (hvb d e).1; have := hJ.low.2.2.1; omega), hM.2.frame hA (fun e => by have := (hvb m e).1; have := hJ.low.2.2.2; omega) (fun y hy k hk => hFS y hy k hk)⟩
    gs := by rw [manW_snoc]; exact hF2
    len := by rw [List.length_append, List.length_append, hJ.len]; rfl
    cores := by rw [manS_snoc, List.map_append, List.map_append, hJ.cores]; simp [hqc]
    row := by rw [List.length_append, partCells_snocM]; exact hown
    ents := fun y hy => by
      rcases List.mem_append.1 hy with hy | hy
      · exact ⟨hasE_frame (hS8 y hy) hA (fun k hk => (hJ.ents y hy).2 k hk), fun k hk => hv' k (inBlkM_lt (hS8 y hy).2.2 hk) ((hJ.ents y hy).2 k hk)⟩
      · rw [List.mem_singleton] at hy
        subst hy
        have hqv : ∀ k, inBlkE y.1.a y.1.len k → some k ≠ v.ownBlock := fun k hk e => by have := hqn k hk; have := (hvb k e).2; omega
        exact ⟨hasE_frame hq hA hqv, fun k hk => hv' k (inBlkM_lt hq.2.2 hk) (hqv k hk)⟩
    grp := fun y hy k hk => hv' k (inBlkM_lt (hM.2.has y hy).2 hk) (hFS y hy k hk)
    bel := hJ.bel.trans (((hT.toBelow (n := W.heap.size) hJ.bel.size (fun k hk => by have := hJ.low.2.1; omega))).trans (hA.toBelow (Nat.le_trans hJ.bel.size hT.size) (fun k hk => by have := (hvb k hk).1; have := hJ.low.1; have := hJ.low.2.2.1; omega)))
    low := hJ.low
    top := Nat.le_trans (Nat.le_trans hJ.top hT.size) hA.size }
theorem ManAt.frame {T : Nat → Prop} {W W' : World} {d m : Nat} {F : List GV} (h : ManAt W d m F) (hF : FrameT T W W') (hd : ¬ T d) (hm : ¬ T m) (hr : ∀ y ∈ F, ∀ k, inG y k → ¬ T k) : ManAt W' d m F := ⟨hF.get h.1 hd, h.2.frame hF hm hr⟩
theorem st10_frameM (W : World) (b : Nat) (v0 v1 v2 v3 v4 v5 v6 v7 v8 v9 : Value) : FrameT (fun k => k = b) W (st10 W b v0 v1 v2 v3 v4 v5 v6 v7 v8 v9) :=
  (((((((((FrameT.setCell W b 0 v0).trans (FrameT.setCell _ b 1 v1)).trans (FrameT.setCell _ b 2 v2)).trans (FrameT.setCell _ b 3 v3)).trans (FrameT.setCell _ b 4 v4)).trans (FrameT.setCell _ b 5 v5)).trans (FrameT.setCell _ b 6 v6)).trans (FrameT.setCell _ b 7 v7)).trans (FrameT.setCell _ b 8 v8)).trans (FrameT.setCell _ b 9 v9)
theorem own_frameM {T : Nat → Prop} {W W' : World} {B : Nat} {e : TypeId} {sz n : Nat} {v : Value} {xs : List Value} (h : W.ownsRow B e sz v n xs) (hF : FrameT T W W') (hT : ∀ j, some j = v.ownBlock → ¬ T j) : W'.ownsRow B e sz v n xs := by
  refine ⟨h.1, ?_⟩
  rcases h.2 with h2 | ⟨g, cap, cur, hv, hb, hg, r⟩
  · exact .inl h2
  · exact .inr ⟨g, cap, cur, hv, hb, hF.get hg (hT g (by rw [hv]; rfl)), r⟩
theorem setX_ok {L : List GM} {x : PL} (h : manE L x = 0) : setX L x = (setP (manG L x.1.g) x.1, x.2) := by
  unfold setX setX1; rw [if_pos (show manE1 _ x = 0 from h)]; rfl
theorem setX_no {L : List GM} {x : PL} (h : manE L x ≠ 0) : setX L x = x := by
  unfold setX setX1; rw [if_neg (show ¬ manE1 _ x = 0 from h)]
theorem WalkJ.rowlt {W : World} {C d m : Nat} {L : List GM} {ps : List PL} {v : Value} {F : List GV} {S : List PL} {wr : World} (hJ : WalkJ W C d m L ps v F S wr) {w' : World} (hT : FrameT (fun k => k = m) wr w') : w'.ownsRow C 30 10 v ps.length (partCells S) :=
  own_frameM hJ.row hT (fun j hj e => by have := (ownBlock_ltM hJ.row hj).1; have := hJ.low.2.2.2; omega)
theorem heap_setCells7 {W : World} {b k : Nat} {o : Obj} (h : W.heap[k]? = some o) (hk : k ≠ b) (v0 v1 v2 v3 v4 v5 v6 : Value) : (st7 W b v0 v1 v2 v3 v4 v5 v6).heap[k]? = some o := (st7_frame W b v0 v1 v2 v3 v4 v5 v6).get h hk
theorem setP_same (g : GM) (p : PartC) : (setP g p).a = p.a ∧ (setP g p).len = p.len ∧ (setP g p).cap = p.cap := by
  unfold setP
  split
  · exact ⟨rfl, rfl, rfl⟩
  · split
    · exact ⟨rfl, rfl, rfl⟩
    · split <;> exact ⟨rfl, rfl, rfl⟩
set_option maxRecDepth 100000 in
set_option maxHeartbeats 2000000 in
theorem walk_any {N : Nat} {W : World} {d m : Nat} {F : List GV} (h : ManAt W d m F) (hN : manOK N (F.map GV.g)) (a : Option Addr) (len cap : Nat) (ps : List PL) (hp : HasP W a len ps) (hN5 : N + 6 * len ≤ 100000) (hg : ∀ x ∈ ps, -9223372036854775808 ≤ x.1.g ∧ x.1.g < 9223372036854775808) :
    Calls Tryz.prog 36 #[.pointer (some ⟨d, 0, none⟩), .slice a len cap] W fun e w' => ∃ d' m' F' S v, e = .returned (.tuple #[.pointer (some ⟨d', 0, none⟩), v, .int .i64 (manF (F.map GV.g) ps)]) ∧ ∃ C, WalkJ W C d' m' (F.map GV.g) ps v F' S w' := by
  obtain ⟨ip, hip, hpz0, hpz1, hpz2⟩ := info_parts infoPartM
  have GCp := Lib.hid (mcopy_any h)
  obtain ⟨hl, hmx, hrow, hen⟩ := hp
  have hcs := hrow.2.2
  have HL := Lib.hid hl
  have HE := Lib.hid hen
  have HN := Lib.hid hN
  have HG := Lib.hid hg
  clear h hrow hen hl hN hg
  obtain ⟨L, hLd⟩ : ∃ L, L = F.map GV.g := ⟨_, rfl⟩
  rw [← hLd] at HN ⊢
  have HFL := Lib.hid hLd
  clear hLd
  go_enter Tryz.func36, Tryz.ntmps36
  go_wp2_with (go_at_call 17; ((with_reducible refine GCp.out.mono ?_); rintro e w1 ⟨d', m', rfl, hd', hm', hM1, hB1⟩))
  have hlow : d' < w1.heap.size ∧ m' < w1.heap.size := ⟨heap_lt hM1.1, hM1.2.map.lt⟩
  go_loopw [8, 9, 19] (fun sf sv si wr => ∃ (k : Nat) (F' : List GV) (S : List PL), k ≤ len ∧ si = .int .i64 k ∧ sf = .int .i64 (manF L (ps.take k)) ∧ WalkJ W w1.heap.size d' m' L (ps.take k) sv F' S wr) (fun _ _ si _ => len - (intOf si).toNat)
  case atStart =>
    exact ⟨0, F, [], by omega, rfl, rfl, ⟨hM1, HFL.out.symm, rfl, rfl, World.ownsRow_nil _ _ _ _, (fun x hx => by cases hx), (fun y hy k hk e => by cases e), hB1, ⟨hd', hm', hlow.1, hlow.2⟩, Nat.le_refl _⟩⟩
  case round =>
    obtain ⟨k, F', S, hk, rfl, rfl, hJ⟩ := hrel
    by_cases hlt : k < len
    · obtain ⟨b, off, rfl, hb, hx⟩ := hcs (by omega)
      have hkl : k < ps.length := by rw [HL.out]; exact hlt
      obtain ⟨c0, c1, c2, c3, c4, c5, c6, c7, c8, c9⟩ := part_at10 hb hJ.bel hx hkl
      have hEk := HE.out ps[k] (List.getElem_mem hkl)
      have hki : (k : Int) < (len : Int) := by omega
      have HJ := Lib.hid hJ
      have HOK := Lib.hid (show manOK (N + 6 * k) (F'.map GV.g) by
        rw [hJ.gs]
        have hlt : (ps.take k).length = k := by rw [List.length_take]; omega
        have := manW_ok (ps := ps.take k) HN.out (by rw [hlt]; omega) (fun x hx => (HE.out x (List.mem_of_mem_take hx)).1)
        rwa [hlt] at this)
      have HN6 := Lib.hid (show N + 6 * k ≤ 100000 by omega)
      have HEk := Lib.hid hEk
      have HTK := Lib.hid (show ps.take (k + 1) = ps.take k ++ [ps[k]] from List.take_succ_eq_append_getElem hkl)
      have HKL := Lib.hid (show (ps.take k).length = k by rw [List.length_take]; omega)
      obtain ⟨f0, hf0⟩ : ∃ f0, f0 = manF L (ps.take k) := ⟨_, rfl⟩
      rw [← hf0]
      have HF0 := Lib.hid hf0
      clear hf0
      have hlowm : m' < w1.heap.size := HJ.out.low.2.2.2
      have htop : w1.heap.size ≤ wr.heap.size := HJ.out.top
      have hkm : k < 1000000 := by omega
      have HX := Lib.hid hx
      clear hx hcs hJ
      have hpgb := HG.out ps[k] (List.getElem_mem hkl)
      generalize hxe : ps[k] = x at *
      obtain ⟨⟨pg, pk, pa, plen, pcap, pht, phv, phc, pi, pt, pm, ph⟩, pl⟩ := x
      have HXE := Lib.hid hxe
      clear hxe
      dsimp only at *
      have HPG := Lib.hid hpgb
      clear hpgb hEk
      have GNw := Lib.hid (fun W' => new_any pg W')
      unfold Gives at GNw
      cases hgz : getZ GV.id F' pg with
      | none =>
        have HLK := Lib.hid (show lookV F' pg = .agg #[.int .i64 0, .int .i64 0, .int .i64 0, .int .i64 0, .int .i64 0, .int .i64 0, .slice none 0 0] by unfold lookV; rw [hgz])
        have HIS := Lib.hid (show (getZ GV.id F' pg).isSome = false by rw [hgz]; rfl)
        have HLG := Lib.hid (show lookG F' pg = .agg #[.int .i64 pg, .int .i64 1, .int .i64 0, .int .i64 0, .int .i64 0, .int .i64 0, .slice none 0 0] by unfold lookG; rw [hgz]; rfl)
        clear hgz
        have GD := Lib.hid (fun W' (hM : ManAt W' d' m' F') (hB : Below W.heap.size W W') => (show Calls Tryz.prog 51 #[.pointer (some ⟨d', 0, none⟩), .agg #[.int .i64 pg, .int .i64 pk, .slice pa plen pcap, .int .i64 pht, .int .i64 phv, .int .i64 phc, .int .i64 pi, .int .i64 pt, .bool pm, .bool ph], .agg #[.int .i64 pg, .int .i64 1, .int .i64 0, .int .i64 0, .int .i64 0, .int .i64 0, .slice none 0 0], .bool false] W' fun e w' => e = .returned (.int .i64 (manE (F'.map GV.g) (⟨⟨pg, pk, pa, plen, pcap, pht, phv, phc, pi, pt, pm, ph⟩, pl⟩ : PL))) ∧ StepM W' d' m' F' (manD (F'.map GV.g) (⟨⟨pg, pk, pa, plen, pcap, pht, phv, phc, pi, pt, pm, ph⟩, pl⟩ : PL)) w' from by
          have := mdo_any hM HOK.out HN6.out (⟨⟨pg, pk, pa, plen, pcap, pht, phv, phc, pi, pt, pm, ph⟩, pl⟩ : PL) (HEk.out.below hB) (lookA F' pg) (lookC F' pg) (manG_has hM.2 pg)
          rw [← manG_val, HLG.out, ← getZ_isSome, HIS.out] at this
          exact this))
        have GS := Lib.hid (fun W' (hG : HasG W' (lookA F' pg) (manG (F'.map GV.g) pg)) (hI : isG (manG (F'.map GV.g) pg) = true) => (show Gives Tryz.prog 52 #[.agg #[.int .i64 pg, .int .i64 1, .int .i64 0, .int .i64 0, .int .i64 0, .int .i64 0, .slice none 0 0], .agg #[.int .i64 pg, .int .i64 pk, .slice pa plen pcap, .int .i64 pht, .int .i64 phv, .int .i64 phc, .int .i64 pi, .int .i64 pt, .bool pm, .bool ph]] W' (setP (manG (F'.map GV.g) pg) (⟨⟨pg, pk, pa, plen, pcap, pht, phv, phc, pi, pt, pm, ph⟩, pl⟩ : PL).1).val from by
          have := settle_any (manG (F'.map GV.g) pg) (lookA F' pg) (lookC F' pg) (⟨⟨pg, pk, pa, plen, pcap, pht, phv, phc, pi, pt, pm, ph⟩, pl⟩ : PL).1 W' hG hI
          rw [← manG_val, HLG.out] at this
          exact this))
        go_wp2
        have hBa := bel_alloc (Below.refl wr.heap.size wr) (.cells #[.int .i64 pg, .int .i64 pk, .slice pa plen pcap, .int .i64 pht, .int .i64 phv, .int .i64 phc, .int .i64 pi, .int .i64 pt, .bool pm, .bool ph] 30)
        have hqa := Lib.hid (World.alloc_heap_new wr (.cells #[.int .i64 pg, .int .i64 pk, .slice pa plen pcap, .int .i64 pht, .int .i64 phv, .int .i64 phc, .int .i64 pi, .int .i64 pt, .bool pm, .bool ph] 30))
        have HSA := Lib.hid (World.size_alloc wr (.cells #[.int .i64 pg, .int .i64 pk, .slice pa plen pcap, .int .i64 pht, .int .i64 phv, .int .i64 phc, .int .i64 pi, .int .i64 pt, .bool pm, .bool ph] 30))
        have hMa := Lib.hid (HJ.out.man.below hBa)
        have HBa := Lib.hid hBa
        clear c0 c1 c2 c3 c4 c5 c6 c7 c8 c9 hBa
        generalize (wr.alloc (.cells #[.int .i64 pg, .int .i64 pk, .slice pa plen pcap, .int .i64 pht, .int .i64 phv, .int .i64 phc, .int .i64 pi, .int .i64 pt, .bool pm, .bool ph] 30)) = wa at *
        have hsa : wa.heap.size = wr.heap.size + 1 := HSA.out
        have hqz := Lib.hid (show (wa.alloc (.cells #[.int .i64 0, .int .i64 0, .int .i64 0, .int .i64 0, .int .i64 0, .int .i64 0, .slice none 0 0] 39)).drew.heap[wr.heap.size]? = _ from (Below.heap_alloc wa _ wr.heap.size (by omega)).trans hqa.out)
        have hgz := Lib.hid (show (wa.alloc (.cells #[.int .i64 0, .int .i64 0, .int .i64 0, .int .i64 0, .int .i64 0, .int .i64 0, .slice none 0 0] 39)).drew.heap[wa.heap.size]? = _ from World.alloc_heap_new wa _)
        have hBz := Lib.hid (show Below wa.heap.size wa (wa.alloc (.cells #[.int .i64 0, .int .i64 0, .int .i64 0, .int .i64 0, .int .i64 0, .int .i64 0, .slice none 0 0] 39)).drew from (bel_alloc (Below.refl _ _) _).drew)
        have cd := cell_of_row wa.drew d' 0 _ _ _ hMa.out.1
        have hlk := HasMap.look (hMa.out.2.below (Below.refl wa.heap.size wa).drew) pg (wf64 HPG.out)
        have cdz := cell_of_row (wa.alloc (.cells #[.int .i64 0, .int .i64 0, .int .i64 0, .int .i64 0, .int .i64 0, .int .i64 0, .slice none 0 0] 39)).drew d' 0 _ _ _ (hMa.out.below hBz.out).1
        have hlkz := HasMap.look (hMa.out.below hBz.out).2 pg (wf64 HPG.out)
        rw [HLK.out, HIS.out] at hlk hlkz
        obtain ⟨p0, p1, p2, p3, p4, p5, p6, p7, p8, p9⟩ := arr10q (show wa.drew.heap[wr.heap.size]? = _ from hqa.out)
        obtain ⟨y0, y1, y2, y3, y4, y5, y6, y7, y8, y9⟩ := arr10q hqz.out
        obtain ⟨z0, z1, z2, z3, z4, z5, z6, fz⟩ := cells7 hgz.out
        clear hsa
        go_region
        all_goals
          clear p0 p1 p2 p3 p4 p5 p6 p7 p8 p9 y0 y1 y2 y3 y4 y5 y6 y7 y8 y9 z0 z1 z2 z3 z4 z5 z6 fz cd cdz hlk hlkz hqz hgz hBz
          have hsa : wa.heap.size = wr.heap.size + 1 := HSA.out
          have HQ := Lib.hid (show (wa.alloc (.cells #[.int .i64 0, .int .i64 0, .int .i64 0, .int .i64 0, .int .i64 0, .int .i64 0, .slice none 0 0] 39)).drew.heap[wr.heap.size]? = _ from (Below.heap_alloc wa _ wr.heap.size (by omega)).trans hqa.out)
          have HG7 := Lib.hid (show (wa.alloc (.cells #[.int .i64 0, .int .i64 0, .int .i64 0, .int .i64 0, .int .i64 0, .int .i64 0, .slice none 0 0] 39)).drew.heap[wr.heap.size + 1]? = some (.cells #[.int .i64 0, .int .i64 0, .int .i64 0, .int .i64 0, .int .i64 0, .int .i64 0, .slice none 0 0] 39 (0, 0)) by rw [← hsa]; exact World.alloc_heap_new wa _)
          have HB := Lib.hid (show Below wr.heap.size wr (wa.alloc (.cells #[.int .i64 0, .int .i64 0, .int .i64 0, .int .i64 0, .int .i64 0, .int .i64 0, .slice none 0 0] 39)).drew from bel2 HBa.out (bel_alloc (Below.refl _ _) _).drew)
          clear hqa HBa hMa
          generalize (wa.alloc (.cells #[.int .i64 0, .int .i64 0, .int .i64 0, .int .i64 0, .int .i64 0, .int .i64 0, .slice none 0 0] 39)).drew = wb at *
          rw [HSA.out]
          clear hsa
          obtain ⟨p0, p1, p2, p3, p4, p5, p6, p7, p8, p9⟩ := arr10q HQ.out
          go_wp2_with (go_at_call 50; ((with_reducible refine (GNw.out _).mono ?_); rintro e w2 ⟨rfl, hB2⟩; clear p0 p1 p2 p3 p4 p5 p6 p7 p8 p9; have HQ2 := Lib.hid ((hB2.block _ (heap_lt HQ.out)).trans HQ.out); have HG2 := Lib.hid ((hB2.block _ (heap_lt HG7.out)).trans HG7.out); obtain ⟨p0, p1, p2, p3, p4, p5, p6, p7, p8, p9⟩ := arr10q HQ2.out; obtain ⟨g0, g1, g2, g3, g4, g5, g6, fg⟩ := cells7 HG2.out; have hq3 := heap_setCells7 (b := wr.heap.size + 1) (k := wr.heap.size) HQ2.out (by omega) (.int .i64 pg) (.int .i64 1) (.int .i64 0) (.int .i64 0) (.int .i64 0) (.int .i64 0) (.slice none 0 0); obtain ⟨x0, x1, x2, x3, x4, x5, x6, x7, x8, x9⟩ := arr10q hq3; have hg3 := st7_block HG2.out (.int .i64 pg) (.int .i64 1) (.int .i64 0) (.int .i64 0) (.int .i64 0) (.int .i64 0) (.slice none 0 0); obtain ⟨h0, h1, h2, h3, h4, h5, h6, fh⟩ := cells7 hg3))
          change Calls _ _ _ (st7 w2 (wr.heap.size + 1) (.int .i64 pg) (.int .i64 1) (.int .i64 0) (.int .i64 0) (.int .i64 0) (.int .i64 0) (.slice none 0 0)) _
          have HQ4 := Lib.hid hq3
          have HG4 := Lib.hid hg3
          have HB4 := Lib.hid (show Below wr.heap.size wr (st7 w2 (wr.heap.size + 1) (.int .i64 pg) (.int .i64 1) (.int .i64 0) (.int .i64 0) (.int .i64 0) (.int .i64 0) (.slice none 0 0)) from (bel2 HB.out hB2).trans ((st7_frame w2 (wr.heap.size + 1) (.int .i64 pg) (.int .i64 1) (.int .i64 0) (.int .i64 0) (.int .i64 0) (.int .i64 0) (.slice none 0 0)).toBelow (bel2 HB.out hB2).size (fun k hk => by omega)))
          clear p0 p1 p2 p3 p4 p5 p6 p7 p8 p9 g0 g1 g2 g3 g4 g5 g6 fg x0 x1 x2 x3 x4 x5 x6 x7 x8 x9 h0 h1 h2 h3 h4 h5 h6 fh hq3 hg3 HQ2 HG2 hB2
          generalize (st7 w2 (wr.heap.size + 1) (.int .i64 pg) (.int .i64 1) (.int .i64 0) (.int .i64 0) (.int .i64 0) (.int .i64 0) (.slice none 0 0)) = w4 at *
          have hM4 := HJ.out.man.below HB4.out
          have hW4 := Lib.hid (bel2 HJ.out.bel HB4.out)
          refine (GD.out w4 hM4 hW4.out).mono ?_
          rintro e w5 ⟨rfl, F2, hM5, hF2, hF5, hnew5⟩
          have HT5 := Lib.hid ((FrameT.below (T := fun k => k = m') HB4.out).trans hF5)
          have HQ5 := Lib.hid (hF5.get HQ4.out (by show ¬ wr.heap.size = m'; omega))
          have HG5 := Lib.hid (hF5.get HG4.out (by show ¬ wr.heap.size + 1 = m'; omega))
          have hgm := hasG_frame (manG_has hM4.2 pg) hF5 (fun k hk e => by obtain ⟨es, clock, hbm⟩ := hM4.2.block; exact (manG_has hM4.2 pg).not_map hbm k hk e)
          have hW5 := Lib.hid (hW4.out.trans (hF5.toBelow hW4.out.size (fun k hk => by have := HJ.out.low.2.1; omega)))
          have HM5 := Lib.hid hM5
          have HF2 := Lib.hid hF2
          have HN6w := Lib.hid hnew5
          have HN5 := Lib.hid (show ∀ y ∈ F2, y ∈ F' ∨ ∀ k, inG y k → wr.heap.size ≤ k from fun y hy => (hnew5 y hy).imp (fun h => h) (fun h k hk => Nat.le_trans HB4.out.size (h k hk)))
          have HGM := Lib.hid hgm
          clear hM4 hM5 hF2 hF5 hnew5 hgm
          dsimp only
          obtain ⟨ce, hce⟩ : ∃ ce, ce = manE (F'.map GV.g) (⟨⟨pg, pk, pa, plen, pcap, pht, phv, phc, pi, pt, pm, ph⟩, pl⟩ : PL) := ⟨_, rfl⟩
          rw [← hce]
          have HCE := Lib.hid hce
          clear hce GD
          have GC := Lib.hid (fun W' (hB : Below W.heap.size W W') => clone_ent pa plen pcap pl HEk.out.1 HEk.out.2.1 W' (HEk.out.2.2.below hB))
          unfold GivesOwn at GC
          obtain ⟨p0, p1, p2, p3, p4, p5, p6, p7, p8, p9⟩ := arr10q HQ5.out
          obtain ⟨g0, g1, g2, g3, g4, g5, g6, fg⟩ := cells7 HG5.out
          have fp := (fun i => frozen_of_row w5 wr.heap.size i _ _ HQ5.out)
          have HFAR := Lib.hid (show ∀ y ∈ F2, ∀ k, inG y k → ¬ k = wr.heap.size from fun y hy k hk e => by
            have hlt := heap_lt HG4.out
            rcases HN6w.out y hy with h | h
            · have := inBlkM_lt (HJ.out.man.2.has y h).2 hk; omega
            · have := h k hk; omega)
          by_cases h0 : ce = 0
          · subst h0
            have hmE := HCE.out.symm
            have hsp := setP_same (manG (F'.map GV.g) pg) (⟨⟨pg, pk, pa, plen, pcap, pht, phv, phc, pi, pt, pm, ph⟩, pl⟩ : PL).1
            have GS5 := Lib.hid (GS.out w5 HGM.out (manG_ok HOK.out (isB_gid (manE_ok hmE).1)).1)
            have HSX := Lib.hid (setX_ok hmE)
            dsimp only at hsp HSX
            obtain ⟨q, hq⟩ : ∃ q, q = setP (manG (F'.map GV.g) pg) (⟨⟨pg, pk, pa, plen, pcap, pht, phv, phc, pi, pt, pm, ph⟩, pl⟩ : PL).1 := ⟨_, rfl⟩
            dsimp only at hq
            rw [← hq] at GS5 hsp HSX
            obtain ⟨qg, qk, qa, qlen, qcap, qht, qhv, qhc, qi, qt, qm, qh⟩ := q
            dsimp only at hsp
            obtain ⟨hs1, hs2, hs3⟩ := hsp
            replace hs1 := hs1.symm
            replace hs2 := hs2.symm
            replace hs3 := hs3.symm
            subst hs1 hs2 hs3
            clear hq hmE GS
            unfold Gives at GS5
            go_wp2_with (go_at_call 52; ((with_reducible refine GS5.out.mono ?_); rintro e w6 ⟨rfl, hB6⟩; clear p0 p1 p2 p3 p4 p5 p6 p7 p8 p9; clear g0 g1 g2 g3 g4 g5 g6 fg; clear fp; have hq6 := Lib.hid ((hB6.block _ (heap_lt HQ5.out)).trans HQ5.out); obtain ⟨p0, p1, p2, p3, p4, p5, p6, p7, p8, p9⟩ := arr10q hq6.out; have fp := (fun i => frozen_of_row w6 wr.heap.size i _ _ hq6.out)))
            change Calls _ _ _ (st10 w6 wr.heap.size (.int .i64 qg) (.int .i64 qk) (.slice pa plen pcap) (.int .i64 qht) (.int .i64 qhv) (.int .i64 qhc) (.int .i64 qi) (.int .i64 qt) (.bool qm) (.bool qh)) _
            have HQ7 := Lib.hid (st10_block hq6.out (.int .i64 qg) (.int .i64 qk) (.slice pa plen pcap) (.int .i64 qht) (.int .i64 qhv) (.int .i64 qhc) (.int .i64 qi) (.int .i64 qt) (.bool qm) (.bool qh))
            have HP7 := Lib.hid (show FrameT (fun k => k = wr.heap.size) w5 (st10 w6 wr.heap.size (.int .i64 qg) (.int .i64 qk) (.slice pa plen pcap) (.int .i64 qht) (.int .i64 qhv) (.int .i64 qhc) (.int .i64 qi) (.int .i64 qt) (.bool qm) (.bool qh)) from (FrameT.below hB6).trans (st10_frameM w6 wr.heap.size (.int .i64 qg) (.int .i64 qk) (.slice pa plen pcap) (.int .i64 qht) (.int .i64 qhv) (.int .i64 qhc) (.int .i64 qi) (.int .i64 qt) (.bool qm) (.bool qh)))
            clear p0 p1 p2 p3 p4 p5 p6 p7 p8 p9
            clear fp hB6
            generalize (st10 w6 wr.heap.size (.int .i64 qg) (.int .i64 qk) (.slice pa plen pcap) (.int .i64 qht) (.int .i64 qhv) (.int .i64 qhc) (.int .i64 qi) (.int .i64 qt) (.bool qm) (.bool qh)) = w7 at *
            have HT7 := Lib.hid (HT5.out.far HP7.out (fun k hk => .inr (Nat.le_of_eq (Eq.symm hk))))
            have HW7 := Lib.hid (hW5.out.trans (HP7.out.toBelow hW5.out.size (fun k hk => by have := HJ.out.bel.size; omega)))
            refine (GC.out w7 HW7.out).mono ?_
            rintro e w8 ⟨v8, rfl, hown8, hB8⟩
            obtain ⟨va, vc, rfl, -, hrow8⟩ := rowV_own hown8
            have hnb := own_new hown8
            have hq8 := (hB8.block _ (heap_lt HQ7.out)).trans HQ7.out
            obtain ⟨p0, p1, p2, p3, p4, p5, p6, p7, p8, p9⟩ := arr10q hq8
            have fp := (fun i => frozen_of_row w8 wr.heap.size i _ _ hq8)
            have HP9 := Lib.hid (show FrameT (fun k => k = wr.heap.size) w5 (w8.setCell ⟨wr.heap.size, 2, none⟩ (.slice va plen vc)) from (HP7.out.trans (FrameT.below hB8)).trans (FrameT.setCell w8 wr.heap.size 2 (.slice va plen vc)))
            have HT9 := Lib.hid (HT5.out.far HP9.out (fun k hk => .inr (Nat.le_of_eq (Eq.symm hk))))
            have HM9 := Lib.hid (HM5.out.frame HP9.out (by show ¬ d' = wr.heap.size; have := HJ.out.low.2.2.1; omega) (by show ¬ m' = wr.heap.size; omega) HFAR.out)
            have hs7 := HT7.out.size
            have hlt7 := heap_lt HQ7.out
            have HE9 := Lib.hid (show HasE (w8.setCell ⟨wr.heap.size, 2, none⟩ (.slice va plen vc)) (⟨⟨qg, qk, va, plen, vc, qht, qhv, qhc, qi, qt, qm, qh⟩, pl⟩ : PL).1 (⟨⟨qg, qk, va, plen, vc, qht, qhv, qhc, qi, qt, qm, qh⟩, pl⟩ : PL).2 from hasE_frame (T := fun k => k = wr.heap.size) ⟨HEk.out.1, HEk.out.2.1, hrow8⟩ (FrameT.setCell _ _ _ _) (fun k hk e => by have := hnb k hk; omega))
            have HNB := Lib.hid (show ∀ k, inBlkE va plen k → wr.heap.size ≤ k from fun k hk => Nat.le_trans hs7 (hnb k hk))
            have hrow9 := HJ.out.rowlt HT9.out
            rw [HKL.out] at hrow9
            have hs9 := HT9.out.size
            clear hq8 hown8 hrow8 hnb hB8 hs7 hlt7
            dsimp only
            go_wp2_with (at_builtin; refine wpList_append_own_at _ rfl _ _ 31 rfl w1.heap.size 30 ip (.agg #[.int .i64 0, .int .i64 0, .slice none 0 0, .int .i64 0, .int .i64 0, .int .i64 0, .int .i64 0, .int .i64 0, .bool false, .bool false]) 10 88 Tryz.underlying31 hip hpz0 hpz1 hpz2 rfl (by decide) _ _ _ rfl (hrow9.alloc _) ⟨w8.heap.size, 0, none⟩ 1 1 [.int .i64 qg, .int .i64 qk, .slice va plen vc, .int .i64 qht, .int .i64 qhv, .int .i64 qhc, .int .i64 qi, .int .i64 qt, .bool qm, .bool qh] rfl rfl (by have h := news_new (w8.setCell ⟨wr.heap.size, 2, none⟩ (.slice va plen vc)) 30 [.int .i64 qg, .int .i64 qk, .slice va plen vc, .int .i64 qht, .int .i64 qhv, .int .i64 qhc, .int .i64 qi, .int .i64 qt, .bool qm, .bool qh]; rwa [World.size_setCell] at h) (by simp [Value.oneCell']) (by unfold maxLen; omega) (by omega) (by simp; simp at hs9; omega) ?_; intro v' w9 hown9 hgrow9 _ hnew9)
            go_roundw
            case rel =>
              refine ⟨k + 1, F2, S ++ [(⟨⟨qg, qk, va, plen, vc, qht, qhv, qhc, qi, qt, qm, qh⟩, pl⟩ : PL)], by omega, by go_num, ?_, ?_⟩
              · rw [HTK.out, manF_snoc, ← HF0.out]
                split
                · rfl
                · rename_i h; rw [← HJ.out.gs, ← HCE.out, show f0 = 0 by omega]
              · rw [HTK.out]
                refine walkJ_step HJ.out (⟨⟨pg, pk, pa, plen, pcap, pht, phv, phc, pi, pt, pm, ph⟩, pl⟩ : PL) HT9.out HM9.out (by rw [← HJ.out.gs]; exact HF2.out) HN5.out HE9.out HNB.out ?_ _ (by rw [HKL.out]; exact hown9) hgrow9 hnew9
                rw [← HJ.out.gs]
                rw [HSX.out]; rfl
            case measure => simp [intOf]; omega
          · have HSX := Lib.hid (setX_no (L := F'.map GV.g) (x := (⟨⟨pg, pk, pa, plen, pcap, pht, phv, phc, pi, pt, pm, ph⟩, pl⟩ : PL)) (by rw [← HCE.out]; exact h0))
            have hc0 : (ce == 0) = false := by rw [beq_eq_false_iff_ne]; exact h0
            have HC0 := Lib.hid h0
            clear h0 GS
            by_cases hf0 : f0 = 0
            · have HFz := Lib.hid HF0.out
              subst hf0
              clear g0 g1 g2 g3 g4 g5 g6 fg
              go_wp2_with (fail)
              have HQ7 := Lib.hid (show w5.heap[wr.heap.size]? = _ from HQ5.out)
              have HP7 := Lib.hid (FrameT.refl (fun k => k = wr.heap.size) w5)
              clear p0 p1 p2 p3 p4 p5 p6 p7 p8 p9
              clear fp
              have HT7 := Lib.hid (HT5.out.far HP7.out (fun k hk => .inr (Nat.le_of_eq (Eq.symm hk))))
              have HW7 := Lib.hid (hW5.out.trans (HP7.out.toBelow hW5.out.size (fun k hk => by have := HJ.out.bel.size; omega)))
              refine (GC.out w5 HW7.out).mono ?_
              rintro e w8 ⟨v8, rfl, hown8, hB8⟩
              obtain ⟨va, vc, rfl, -, hrow8⟩ := rowV_own hown8
              have hnb := own_new hown8
              have hq8 := (hB8.block _ (heap_lt HQ7.out)).trans HQ7.out
              obtain ⟨p0, p1, p2, p3, p4, p5, p6, p7, p8, p9⟩ := arr10q hq8
              have fp := (fun i => frozen_of_row w8 wr.heap.size i _ _ hq8)
              have HP9 := Lib.hid (show FrameT (fun k => k = wr.heap.size) w5 (w8.setCell ⟨wr.heap.size, 2, none⟩ (.slice va plen vc)) from (HP7.out.trans (FrameT.below hB8)).trans (FrameT.setCell w8 wr.heap.size 2 (.slice va plen vc)))
              have HT9 := Lib.hid (HT5.out.far HP9.out (fun k hk => .inr (Nat.le_of_eq (Eq.symm hk))))
              have HM9 := Lib.hid (HM5.out.frame HP9.out (by show ¬ d' = wr.heap.size; have := HJ.out.low.2.2.1; omega) (by show ¬ m' = wr.heap.size; omega) HFAR.out)
              have hs7 := HT7.out.size
              have hlt7 := heap_lt HQ7.out
              have HE9 := Lib.hid (show HasE (w8.setCell ⟨wr.heap.size, 2, none⟩ (.slice va plen vc)) (⟨⟨pg, pk, va, plen, vc, pht, phv, phc, pi, pt, pm, ph⟩, pl⟩ : PL).1 (⟨⟨pg, pk, va, plen, vc, pht, phv, phc, pi, pt, pm, ph⟩, pl⟩ : PL).2 from hasE_frame (T := fun k => k = wr.heap.size) ⟨HEk.out.1, HEk.out.2.1, hrow8⟩ (FrameT.setCell _ _ _ _) (fun k hk e => by have := hnb k hk; omega))
              have HNB := Lib.hid (show ∀ k, inBlkE va plen k → wr.heap.size ≤ k from fun k hk => Nat.le_trans hs7 (hnb k hk))
              have hrow9 := HJ.out.rowlt HT9.out
              rw [HKL.out] at hrow9
              have hs9 := HT9.out.size
              clear hq8 hown8 hrow8 hnb hB8 hs7 hlt7
              dsimp only
              go_wp2_with (at_builtin; refine wpList_append_own_at _ rfl _ _ 31 rfl w1.heap.size 30 ip (.agg #[.int .i64 0, .int .i64 0, .slice none 0 0, .int .i64 0, .int .i64 0, .int .i64 0, .int .i64 0, .int .i64 0, .bool false, .bool false]) 10 88 Tryz.underlying31 hip hpz0 hpz1 hpz2 rfl (by decide) _ _ _ rfl (hrow9.alloc _) ⟨w8.heap.size, 0, none⟩ 1 1 [.int .i64 pg, .int .i64 pk, .slice va plen vc, .int .i64 pht, .int .i64 phv, .int .i64 phc, .int .i64 pi, .int .i64 pt, .bool pm, .bool ph] rfl rfl (by have h := news_new (w8.setCell ⟨wr.heap.size, 2, none⟩ (.slice va plen vc)) 30 [.int .i64 pg, .int .i64 pk, .slice va plen vc, .int .i64 pht, .int .i64 phv, .int .i64 phc, .int .i64 pi, .int .i64 pt, .bool pm, .bool ph]; rwa [World.size_setCell] at h) (by simp [Value.oneCell']) (by unfold maxLen; omega) (by omega) (by simp; simp at hs9; omega) ?_; intro v' w9 hown9 hgrow9 _ hnew9)
              go_roundw
              case rel =>
                refine ⟨k + 1, F2, S ++ [(⟨⟨pg, pk, va, plen, vc, pht, phv, phc, pi, pt, pm, ph⟩, pl⟩ : PL)], by omega, by go_num, ?_, ?_⟩
                · rw [HTK.out, manF_snoc, ← HF0.out]
                  rw [if_neg (by decide), ← HJ.out.gs, ← HCE.out]
                · rw [HTK.out]
                  refine walkJ_step HJ.out (⟨⟨pg, pk, pa, plen, pcap, pht, phv, phc, pi, pt, pm, ph⟩, pl⟩ : PL) HT9.out HM9.out (by rw [← HJ.out.gs]; exact HF2.out) HN5.out HE9.out HNB.out ?_ _ (by rw [HKL.out]; exact hown9) hgrow9 hnew9
                  rw [← HJ.out.gs]
                  rw [HSX.out]; rfl
              case measure => simp [intOf]; omega
            · have hf1 : (f0 == 0) = false := by rw [beq_eq_false_iff_ne]; exact hf0
              have HFn := Lib.hid hf0
              clear hf0
              clear g0 g1 g2 g3 g4 g5 g6 fg
              go_wp2_with (fail)
              have HQ7 := Lib.hid (show w5.heap[wr.heap.size]? = _ from HQ5.out)
              have HP7 := Lib.hid (FrameT.refl (fun k => k = wr.heap.size) w5)
              clear p0 p1 p2 p3 p4 p5 p6 p7 p8 p9
              clear fp
              have HT7 := Lib.hid (HT5.out.far HP7.out (fun k hk => .inr (Nat.le_of_eq (Eq.symm hk))))
              have HW7 := Lib.hid (hW5.out.trans (HP7.out.toBelow hW5.out.size (fun k hk => by have := HJ.out.bel.size; omega)))
              refine (GC.out w5 HW7.out).mono ?_
              rintro e w8 ⟨v8, rfl, hown8, hB8⟩
              obtain ⟨va, vc, rfl, -, hrow8⟩ := rowV_own hown8
              have hnb := own_new hown8
              have hq8 := (hB8.block _ (heap_lt HQ7.out)).trans HQ7.out
              obtain ⟨p0, p1, p2, p3, p4, p5, p6, p7, p8, p9⟩ := arr10q hq8
              have fp := (fun i => frozen_of_row w8 wr.heap.size i _ _ hq8)
              have HP9 := Lib.hid (show FrameT (fun k => k = wr.heap.size) w5 (w8.setCell ⟨wr.heap.size, 2, none⟩ (.slice va plen vc)) from (HP7.out.trans (FrameT.below hB8)).trans (FrameT.setCell w8 wr.heap.size 2 (.slice va plen vc)))
              have HT9 := Lib.hid (HT5.out.far HP9.out (fun k hk => .inr (Nat.le_of_eq (Eq.symm hk))))
              have HM9 := Lib.hid (HM5.out.frame HP9.out (by show ¬ d' = wr.heap.size; have := HJ.out.low.2.2.1; omega) (by show ¬ m' = wr.heap.size; omega) HFAR.out)
              have hs7 := HT7.out.size
              have hlt7 := heap_lt HQ7.out
              have HE9 := Lib.hid (show HasE (w8.setCell ⟨wr.heap.size, 2, none⟩ (.slice va plen vc)) (⟨⟨pg, pk, va, plen, vc, pht, phv, phc, pi, pt, pm, ph⟩, pl⟩ : PL).1 (⟨⟨pg, pk, va, plen, vc, pht, phv, phc, pi, pt, pm, ph⟩, pl⟩ : PL).2 from hasE_frame (T := fun k => k = wr.heap.size) ⟨HEk.out.1, HEk.out.2.1, hrow8⟩ (FrameT.setCell _ _ _ _) (fun k hk e => by have := hnb k hk; omega))
              have HNB := Lib.hid (show ∀ k, inBlkE va plen k → wr.heap.size ≤ k from fun k hk => Nat.le_trans hs7 (hnb k hk))
              have hrow9 := HJ.out.rowlt HT9.out
              rw [HKL.out] at hrow9
              have hs9 := HT9.out.size
              clear hq8 hown8 hrow8 hnb hB8 hs7 hlt7
              dsimp only
              go_wp2_with (at_builtin; refine wpList_append_own_at _ rfl _ _ 31 rfl w1.heap.size 30 ip (.agg #[.int .i64 0, .int .i64 0, .slice none 0 0, .int .i64 0, .int .i64 0, .int .i64 0, .int .i64 0, .int .i64 0, .bool false, .bool false]) 10 88 Tryz.underlying31 hip hpz0 hpz1 hpz2 rfl (by decide) _ _ _ rfl (hrow9.alloc _) ⟨w8.heap.size, 0, none⟩ 1 1 [.int .i64 pg, .int .i64 pk, .slice va plen vc, .int .i64 pht, .int .i64 phv, .int .i64 phc, .int .i64 pi, .int .i64 pt, .bool pm, .bool ph] rfl rfl (by have h := news_new (w8.setCell ⟨wr.heap.size, 2, none⟩ (.slice va plen vc)) 30 [.int .i64 pg, .int .i64 pk, .slice va plen vc, .int .i64 pht, .int .i64 phv, .int .i64 phc, .int .i64 pi, .int .i64 pt, .bool pm, .bool ph]; rwa [World.size_setCell] at h) (by simp [Value.oneCell']) (by unfold maxLen; omega) (by omega) (by simp; simp at hs9; omega) ?_; intro v' w9 hown9 hgrow9 _ hnew9)
              go_roundw
              case rel =>
                refine ⟨k + 1, F2, S ++ [(⟨⟨pg, pk, va, plen, vc, pht, phv, phc, pi, pt, pm, ph⟩, pl⟩ : PL)], by omega, by go_num, ?_, ?_⟩
                · rw [HTK.out, manF_snoc, ← HF0.out]
                  rw [if_pos HFn.out]
                · rw [HTK.out]
                  refine walkJ_step HJ.out (⟨⟨pg, pk, pa, plen, pcap, pht, phv, phc, pi, pt, pm, ph⟩, pl⟩ : PL) HT9.out HM9.out (by rw [← HJ.out.gs]; exact HF2.out) HN5.out HE9.out HNB.out ?_ _ (by rw [HKL.out]; exact hown9) hgrow9 hnew9
                  rw [← HJ.out.gs]
                  rw [HSX.out]; rfl
              case measure => simp [intOf]; omega
      | some y =>
        obtain ⟨⟨id, fi, te, ht, hv, hc, gl⟩, ga, gc⟩ := y
        have HLK := Lib.hid (show lookV F' pg = .agg #[.int .i64 id, .int .i64 fi, .int .i64 te, .int .i64 ht, .int .i64 hv, .int .i64 hc, .slice ga gl.length gc] by unfold lookV; rw [hgz])
        have HIS := Lib.hid (show (getZ GV.id F' pg).isSome = true by rw [hgz]; rfl)
        have HLG := Lib.hid (show lookG F' pg = .agg #[.int .i64 id, .int .i64 fi, .int .i64 te, .int .i64 ht, .int .i64 hv, .int .i64 hc, .slice ga gl.length gc] by unfold lookG; rw [hgz])
        clear hgz
        have GD := Lib.hid (fun W' (hM : ManAt W' d' m' F') (hB : Below W.heap.size W W') => (show Calls Tryz.prog 51 #[.pointer (some ⟨d', 0, none⟩), .agg #[.int .i64 pg, .int .i64 pk, .slice pa plen pcap, .int .i64 pht, .int .i64 phv, .int .i64 phc, .int .i64 pi, .int .i64 pt, .bool pm, .bool ph], .agg #[.int .i64 id, .int .i64 fi, .int .i64 te, .int .i64 ht, .int .i64 hv, .int .i64 hc, .slice ga gl.length gc], .bool true] W' fun e w' => e = .returned (.int .i64 (manE (F'.map GV.g) (⟨⟨pg, pk, pa, plen, pcap, pht, phv, phc, pi, pt, pm, ph⟩, pl⟩ : PL))) ∧ StepM W' d' m' F' (manD (F'.map GV.g) (⟨⟨pg, pk, pa, plen, pcap, pht, phv, phc, pi, pt, pm, ph⟩, pl⟩ : PL)) w' from by
          have := mdo_any hM HOK.out HN6.out (⟨⟨pg, pk, pa, plen, pcap, pht, phv, phc, pi, pt, pm, ph⟩, pl⟩ : PL) (HEk.out.below hB) (lookA F' pg) (lookC F' pg) (manG_has hM.2 pg)
          rw [← manG_val, HLG.out, ← getZ_isSome, HIS.out] at this
          exact this))
        have GS := Lib.hid (fun W' (hG : HasG W' (lookA F' pg) (manG (F'.map GV.g) pg)) (hI : isG (manG (F'.map GV.g) pg) = true) => (show Gives Tryz.prog 52 #[.agg #[.int .i64 id, .int .i64 fi, .int .i64 te, .int .i64 ht, .int .i64 hv, .int .i64 hc, .slice ga gl.length gc], .agg #[.int .i64 pg, .int .i64 pk, .slice pa plen pcap, .int .i64 pht, .int .i64 phv, .int .i64 phc, .int .i64 pi, .int .i64 pt, .bool pm, .bool ph]] W' (setP (manG (F'.map GV.g) pg) (⟨⟨pg, pk, pa, plen, pcap, pht, phv, phc, pi, pt, pm, ph⟩, pl⟩ : PL).1).val from by
          have := settle_any (manG (F'.map GV.g) pg) (lookA F' pg) (lookC F' pg) (⟨⟨pg, pk, pa, plen, pcap, pht, phv, phc, pi, pt, pm, ph⟩, pl⟩ : PL).1 W' hG hI
          rw [← manG_val, HLG.out] at this
          exact this))
        go_wp2
        have hBa := bel_alloc (Below.refl wr.heap.size wr) (.cells #[.int .i64 pg, .int .i64 pk, .slice pa plen pcap, .int .i64 pht, .int .i64 phv, .int .i64 phc, .int .i64 pi, .int .i64 pt, .bool pm, .bool ph] 30)
        have hqa := Lib.hid (World.alloc_heap_new wr (.cells #[.int .i64 pg, .int .i64 pk, .slice pa plen pcap, .int .i64 pht, .int .i64 phv, .int .i64 phc, .int .i64 pi, .int .i64 pt, .bool pm, .bool ph] 30))
        have HSA := Lib.hid (World.size_alloc wr (.cells #[.int .i64 pg, .int .i64 pk, .slice pa plen pcap, .int .i64 pht, .int .i64 phv, .int .i64 phc, .int .i64 pi, .int .i64 pt, .bool pm, .bool ph] 30))
        have hMa := Lib.hid (HJ.out.man.below hBa)
        have HBa := Lib.hid hBa
        clear c0 c1 c2 c3 c4 c5 c6 c7 c8 c9 hBa
        generalize (wr.alloc (.cells #[.int .i64 pg, .int .i64 pk, .slice pa plen pcap, .int .i64 pht, .int .i64 phv, .int .i64 phc, .int .i64 pi, .int .i64 pt, .bool pm, .bool ph] 30)) = wa at *
        have hsa : wa.heap.size = wr.heap.size + 1 := HSA.out
        have hqz := Lib.hid (show (wa.alloc (.cells #[.int .i64 0, .int .i64 0, .int .i64 0, .int .i64 0, .int .i64 0, .int .i64 0, .slice none 0 0] 39)).drew.heap[wr.heap.size]? = _ from (Below.heap_alloc wa _ wr.heap.size (by omega)).trans hqa.out)
        have hgz := Lib.hid (show (wa.alloc (.cells #[.int .i64 0, .int .i64 0, .int .i64 0, .int .i64 0, .int .i64 0, .int .i64 0, .slice none 0 0] 39)).drew.heap[wa.heap.size]? = _ from World.alloc_heap_new wa _)
        have hBz := Lib.hid (show Below wa.heap.size wa (wa.alloc (.cells #[.int .i64 0, .int .i64 0, .int .i64 0, .int .i64 0, .int .i64 0, .int .i64 0, .slice none 0 0] 39)).drew from (bel_alloc (Below.refl _ _) _).drew)
        have cd := cell_of_row wa.drew d' 0 _ _ _ hMa.out.1
        have hlk := HasMap.look (hMa.out.2.below (Below.refl wa.heap.size wa).drew) pg (wf64 HPG.out)
        have cdz := cell_of_row (wa.alloc (.cells #[.int .i64 0, .int .i64 0, .int .i64 0, .int .i64 0, .int .i64 0, .int .i64 0, .slice none 0 0] 39)).drew d' 0 _ _ _ (hMa.out.below hBz.out).1
        have hlkz := HasMap.look (hMa.out.below hBz.out).2 pg (wf64 HPG.out)
        rw [HLK.out, HIS.out] at hlk hlkz
        obtain ⟨p0, p1, p2, p3, p4, p5, p6, p7, p8, p9⟩ := arr10q (show wa.drew.heap[wr.heap.size]? = _ from hqa.out)
        obtain ⟨y0, y1, y2, y3, y4, y5, y6, y7, y8, y9⟩ := arr10q hqz.out
        obtain ⟨z0, z1, z2, z3, z4, z5, z6, fz⟩ := cells7 hgz.out
        clear hsa
        go_region
        all_goals
          clear p0 p1 p2 p3 p4 p5 p6 p7 p8 p9 y0 y1 y2 y3 y4 y5 y6 y7 y8 y9 z0 z1 z2 z3 z4 z5 z6 fz cd cdz hlk hlkz hqz hgz hBz
          have hsa : wa.heap.size = wr.heap.size + 1 := HSA.out
          have HQ := Lib.hid (show (wa.alloc (.cells #[.int .i64 id, .int .i64 fi, .int .i64 te, .int .i64 ht, .int .i64 hv, .int .i64 hc, .slice ga gl.length gc] 39)).drew.heap[wr.heap.size]? = _ from (Below.heap_alloc wa _ wr.heap.size (by omega)).trans hqa.out)
          have HG7 := Lib.hid (show (wa.alloc (.cells #[.int .i64 id, .int .i64 fi, .int .i64 te, .int .i64 ht, .int .i64 hv, .int .i64 hc, .slice ga gl.length gc] 39)).drew.heap[wr.heap.size + 1]? = some (.cells #[.int .i64 id, .int .i64 fi, .int .i64 te, .int .i64 ht, .int .i64 hv, .int .i64 hc, .slice ga gl.length gc] 39 (0, 0)) by rw [← hsa]; exact World.alloc_heap_new wa _)
          have HB := Lib.hid (show Below wr.heap.size wr (wa.alloc (.cells #[.int .i64 id, .int .i64 fi, .int .i64 te, .int .i64 ht, .int .i64 hv, .int .i64 hc, .slice ga gl.length gc] 39)).drew from bel2 HBa.out (bel_alloc (Below.refl _ _) _).drew)
          clear hqa HBa hMa
          generalize (wa.alloc (.cells #[.int .i64 id, .int .i64 fi, .int .i64 te, .int .i64 ht, .int .i64 hv, .int .i64 hc, .slice ga gl.length gc] 39)).drew = wb at *
          rw [HSA.out]
          clear hsa
          obtain ⟨p0, p1, p2, p3, p4, p5, p6, p7, p8, p9⟩ := arr10q HQ.out
          obtain ⟨g0, g1, g2, g3, g4, g5, g6, fg⟩ := cells7 HG7.out
          go_wp2_with (fail)
          have HQ4 := Lib.hid HQ.out
          have HG4 := Lib.hid HG7.out
          have HB4 := Lib.hid HB.out
          clear p0 p1 p2 p3 p4 p5 p6 p7 p8 p9 g0 g1 g2 g3 g4 g5 g6 fg
          obtain ⟨w4, hw4⟩ : ∃ w4, w4 = wb := ⟨_, rfl⟩
          subst hw4
          have hM4 := HJ.out.man.below HB4.out
          have hW4 := Lib.hid (bel2 HJ.out.bel HB4.out)
          refine (GD.out w4 hM4 hW4.out).mono ?_
          rintro e w5 ⟨rfl, F2, hM5, hF2, hF5, hnew5⟩
          have HT5 := Lib.hid ((FrameT.below (T := fun k => k = m') HB4.out).trans hF5)
          have HQ5 := Lib.hid (hF5.get HQ4.out (by show ¬ wr.heap.size = m'; omega))
          have HG5 := Lib.hid (hF5.get HG4.out (by show ¬ wr.heap.size + 1 = m'; omega))
          have hgm := hasG_frame (manG_has hM4.2 pg) hF5 (fun k hk e => by obtain ⟨es, clock, hbm⟩ := hM4.2.block; exact (manG_has hM4.2 pg).not_map hbm k hk e)
          have hW5 := Lib.hid (hW4.out.trans (hF5.toBelow hW4.out.size (fun k hk => by have := HJ.out.low.2.1; omega)))
          have HM5 := Lib.hid hM5
          have HF2 := Lib.hid hF2
          have HN6w := Lib.hid hnew5
          have HN5 := Lib.hid (show ∀ y ∈ F2, y ∈ F' ∨ ∀ k, inG y k → wr.heap.size ≤ k from fun y hy => (hnew5 y hy).imp (fun h => h) (fun h k hk => Nat.le_trans HB4.out.size (h k hk)))
          have HGM := Lib.hid hgm
          clear hM4 hM5 hF2 hF5 hnew5 hgm
          dsimp only
          obtain ⟨ce, hce⟩ : ∃ ce, ce = manE (F'.map GV.g) (⟨⟨pg, pk, pa, plen, pcap, pht, phv, phc, pi, pt, pm, ph⟩, pl⟩ : PL) := ⟨_, rfl⟩
          rw [← hce]
          have HCE := Lib.hid hce
          clear hce GD
          have GC := Lib.hid (fun W' (hB : Below W.heap.size W W') => clone_ent pa plen pcap pl HEk.out.1 HEk.out.2.1 W' (HEk.out.2.2.below hB))
          unfold GivesOwn at GC
          obtain ⟨p0, p1, p2, p3, p4, p5, p6, p7, p8, p9⟩ := arr10q HQ5.out
          obtain ⟨g0, g1, g2, g3, g4, g5, g6, fg⟩ := cells7 HG5.out
          have fp := (fun i => frozen_of_row w5 wr.heap.size i _ _ HQ5.out)
          have HFAR := Lib.hid (show ∀ y ∈ F2, ∀ k, inG y k → ¬ k = wr.heap.size from fun y hy k hk e => by
            have hlt := heap_lt HG4.out
            rcases HN6w.out y hy with h | h
            · have := inBlkM_lt (HJ.out.man.2.has y h).2 hk; omega
            · have := h k hk; omega)
          by_cases h0 : ce = 0
          · subst h0
            have hmE := HCE.out.symm
            have hsp := setP_same (manG (F'.map GV.g) pg) (⟨⟨pg, pk, pa, plen, pcap, pht, phv, phc, pi, pt, pm, ph⟩, pl⟩ : PL).1
            have GS5 := Lib.hid (GS.out w5 HGM.out (manG_ok HOK.out (isB_gid (manE_ok hmE).1)).1)
            have HSX := Lib.hid (setX_ok hmE)
            dsimp only at hsp HSX
            obtain ⟨q, hq⟩ : ∃ q, q = setP (manG (F'.map GV.g) pg) (⟨⟨pg, pk, pa, plen, pcap, pht, phv, phc, pi, pt, pm, ph⟩, pl⟩ : PL).1 := ⟨_, rfl⟩
            dsimp only at hq
            rw [← hq] at GS5 hsp HSX
            obtain ⟨qg, qk, qa, qlen, qcap, qht, qhv, qhc, qi, qt, qm, qh⟩ := q
            dsimp only at hsp
            obtain ⟨hs1, hs2, hs3⟩ := hsp
            replace hs1 := hs1.symm
            replace hs2 := hs2.symm
            replace hs3 := hs3.symm
            subst hs1 hs2 hs3
            clear hq hmE GS
            unfold Gives at GS5
            go_wp2_with (go_at_call 52; ((with_reducible refine GS5.out.mono ?_); rintro e w6 ⟨rfl, hB6⟩; clear p0 p1 p2 p3 p4 p5 p6 p7 p8 p9; clear g0 g1 g2 g3 g4 g5 g6 fg; clear fp; have hq6 := Lib.hid ((hB6.block _ (heap_lt HQ5.out)).trans HQ5.out); obtain ⟨p0, p1, p2, p3, p4, p5, p6, p7, p8, p9⟩ := arr10q hq6.out; have fp := (fun i => frozen_of_row w6 wr.heap.size i _ _ hq6.out)))
            change Calls _ _ _ (st10 w6 wr.heap.size (.int .i64 qg) (.int .i64 qk) (.slice pa plen pcap) (.int .i64 qht) (.int .i64 qhv) (.int .i64 qhc) (.int .i64 qi) (.int .i64 qt) (.bool qm) (.bool qh)) _
            have HQ7 := Lib.hid (st10_block hq6.out (.int .i64 qg) (.int .i64 qk) (.slice pa plen pcap) (.int .i64 qht) (.int .i64 qhv) (.int .i64 qhc) (.int .i64 qi) (.int .i64 qt) (.bool qm) (.bool qh))
            have HP7 := Lib.hid (show FrameT (fun k => k = wr.heap.size) w5 (st10 w6 wr.heap.size (.int .i64 qg) (.int .i64 qk) (.slice pa plen pcap) (.int .i64 qht) (.int .i64 qhv) (.int .i64 qhc) (.int .i64 qi) (.int .i64 qt) (.bool qm) (.bool qh)) from (FrameT.below hB6).trans (st10_frameM w6 wr.heap.size (.int .i64 qg) (.int .i64 qk) (.slice pa plen pcap) (.int .i64 qht) (.int .i64 qhv) (.int .i64 qhc) (.int .i64 qi) (.int .i64 qt) (.bool qm) (.bool qh)))
            clear p0 p1 p2 p3 p4 p5 p6 p7 p8 p9
            clear fp hB6
            generalize (st10 w6 wr.heap.size (.int .i64 qg) (.int .i64 qk) (.slice pa plen pcap) (.int .i64 qht) (.int .i64 qhv) (.int .i64 qhc) (.int .i64 qi) (.int .i64 qt) (.bool qm) (.bool qh)) = w7 at *
            have HT7 := Lib.hid (HT5.out.far HP7.out (fun k hk => .inr (Nat.le_of_eq (Eq.symm hk))))
            have HW7 := Lib.hid (hW5.out.trans (HP7.out.toBelow hW5.out.size (fun k hk => by have := HJ.out.bel.size; omega)))
            refine (GC.out w7 HW7.out).mono ?_
            rintro e w8 ⟨v8, rfl, hown8, hB8⟩
            obtain ⟨va, vc, rfl, -, hrow8⟩ := rowV_own hown8
            have hnb := own_new hown8
            have hq8 := (hB8.block _ (heap_lt HQ7.out)).trans HQ7.out
            obtain ⟨p0, p1, p2, p3, p4, p5, p6, p7, p8, p9⟩ := arr10q hq8
            have fp := (fun i => frozen_of_row w8 wr.heap.size i _ _ hq8)
            have HP9 := Lib.hid (show FrameT (fun k => k = wr.heap.size) w5 (w8.setCell ⟨wr.heap.size, 2, none⟩ (.slice va plen vc)) from (HP7.out.trans (FrameT.below hB8)).trans (FrameT.setCell w8 wr.heap.size 2 (.slice va plen vc)))
            have HT9 := Lib.hid (HT5.out.far HP9.out (fun k hk => .inr (Nat.le_of_eq (Eq.symm hk))))
            have HM9 := Lib.hid (HM5.out.frame HP9.out (by show ¬ d' = wr.heap.size; have := HJ.out.low.2.2.1; omega) (by show ¬ m' = wr.heap.size; omega) HFAR.out)
            have hs7 := HT7.out.size
            have hlt7 := heap_lt HQ7.out
            have HE9 := Lib.hid (show HasE (w8.setCell ⟨wr.heap.size, 2, none⟩ (.slice va plen vc)) (⟨⟨qg, qk, va, plen, vc, qht, qhv, qhc, qi, qt, qm, qh⟩, pl⟩ : PL).1 (⟨⟨qg, qk, va, plen, vc, qht, qhv, qhc, qi, qt, qm, qh⟩, pl⟩ : PL).2 from hasE_frame (T := fun k => k = wr.heap.size) ⟨HEk.out.1, HEk.out.2.1, hrow8⟩ (FrameT.setCell _ _ _ _) (fun k hk e => by have := hnb k hk; omega))
            have HNB := Lib.hid (show ∀ k, inBlkE va plen k → wr.heap.size ≤ k from fun k hk => Nat.le_trans hs7 (hnb k hk))
            have hrow9 := HJ.out.rowlt HT9.out
            rw [HKL.out] at hrow9
            have hs9 := HT9.out.size
            clear hq8 hown8 hrow8 hnb hB8 hs7 hlt7
            dsimp only
            go_wp2_with (at_builtin; refine wpList_append_own_at _ rfl _ _ 31 rfl w1.heap.size 30 ip (.agg #[.int .i64 0, .int .i64 0, .slice none 0 0, .int .i64 0, .int .i64 0, .int .i64 0, .int .i64 0, .int .i64 0, .bool false, .bool false]) 10 88 Tryz.underlying31 hip hpz0 hpz1 hpz2 rfl (by decide) _ _ _ rfl (hrow9.alloc _) ⟨w8.heap.size, 0, none⟩ 1 1 [.int .i64 qg, .int .i64 qk, .slice va plen vc, .int .i64 qht, .int .i64 qhv, .int .i64 qhc, .int .i64 qi, .int .i64 qt, .bool qm, .bool qh] rfl rfl (by have h := news_new (w8.setCell ⟨wr.heap.size, 2, none⟩ (.slice va plen vc)) 30 [.int .i64 qg, .int .i64 qk, .slice va plen vc, .int .i64 qht, .int .i64 qhv, .int .i64 qhc, .int .i64 qi, .int .i64 qt, .bool qm, .bool qh]; rwa [World.size_setCell] at h) (by simp [Value.oneCell']) (by unfold maxLen; omega) (by omega) (by simp; simp at hs9; omega) ?_; intro v' w9 hown9 hgrow9 _ hnew9)
            go_roundw
            case rel =>
              refine ⟨k + 1, F2, S ++ [(⟨⟨qg, qk, va, plen, vc, qht, qhv, qhc, qi, qt, qm, qh⟩, pl⟩ : PL)], by omega, by go_num, ?_, ?_⟩
              · rw [HTK.out, manF_snoc, ← HF0.out]
                split
                · rfl
                · rename_i h; rw [← HJ.out.gs, ← HCE.out, show f0 = 0 by omega]
              · rw [HTK.out]
                refine walkJ_step HJ.out (⟨⟨pg, pk, pa, plen, pcap, pht, phv, phc, pi, pt, pm, ph⟩, pl⟩ : PL) HT9.out HM9.out (by rw [← HJ.out.gs]; exact HF2.out) HN5.out HE9.out HNB.out ?_ _ (by rw [HKL.out]; exact hown9) hgrow9 hnew9
                rw [← HJ.out.gs]
                rw [HSX.out]; rfl
            case measure => simp [intOf]; omega
          · have HSX := Lib.hid (setX_no (L := F'.map GV.g) (x := (⟨⟨pg, pk, pa, plen, pcap, pht, phv, phc, pi, pt, pm, ph⟩, pl⟩ : PL)) (by rw [← HCE.out]; exact h0))
            have hc0 : (ce == 0) = false := by rw [beq_eq_false_iff_ne]; exact h0
            have HC0 := Lib.hid h0
            clear h0 GS
            by_cases hf0 : f0 = 0
            · have HFz := Lib.hid HF0.out
              subst hf0
              clear g0 g1 g2 g3 g4 g5 g6 fg
              go_wp2_with (fail)
              have HQ7 := Lib.hid (show w5.heap[wr.heap.size]? = _ from HQ5.out)
              have HP7 := Lib.hid (FrameT.refl (fun k => k = wr.heap.size) w5)
              clear p0 p1 p2 p3 p4 p5 p6 p7 p8 p9
              clear fp
              have HT7 := Lib.hid (HT5.out.far HP7.out (fun k hk => .inr (Nat.le_of_eq (Eq.symm hk))))
              have HW7 := Lib.hid (hW5.out.trans (HP7.out.toBelow hW5.out.size (fun k hk => by have := HJ.out.bel.size; omega)))
              refine (GC.out w5 HW7.out).mono ?_
              rintro e w8 ⟨v8, rfl, hown8, hB8⟩
              obtain ⟨va, vc, rfl, -, hrow8⟩ := rowV_own hown8
              have hnb := own_new hown8
              have hq8 := (hB8.block _ (heap_lt HQ7.out)).trans HQ7.out
              obtain ⟨p0, p1, p2, p3, p4, p5, p6, p7, p8, p9⟩ := arr10q hq8
              have fp := (fun i => frozen_of_row w8 wr.heap.size i _ _ hq8)
              have HP9 := Lib.hid (show FrameT (fun k => k = wr.heap.size) w5 (w8.setCell ⟨wr.heap.size, 2, none⟩ (.slice va plen vc)) from (HP7.out.trans (FrameT.below hB8)).trans (FrameT.setCell w8 wr.heap.size 2 (.slice va plen vc)))
              have HT9 := Lib.hid (HT5.out.far HP9.out (fun k hk => .inr (Nat.le_of_eq (Eq.symm hk))))
              have HM9 := Lib.hid (HM5.out.frame HP9.out (by show ¬ d' = wr.heap.size; have := HJ.out.low.2.2.1; omega) (by show ¬ m' = wr.heap.size; omega) HFAR.out)
              have hs7 := HT7.out.size
              have hlt7 := heap_lt HQ7.out
              have HE9 := Lib.hid (show HasE (w8.setCell ⟨wr.heap.size, 2, none⟩ (.slice va plen vc)) (⟨⟨pg, pk, va, plen, vc, pht, phv, phc, pi, pt, pm, ph⟩, pl⟩ : PL).1 (⟨⟨pg, pk, va, plen, vc, pht, phv, phc, pi, pt, pm, ph⟩, pl⟩ : PL).2 from hasE_frame (T := fun k => k = wr.heap.size) ⟨HEk.out.1, HEk.out.2.1, hrow8⟩ (FrameT.setCell _ _ _ _) (fun k hk e => by have := hnb k hk; omega))
              have HNB := Lib.hid (show ∀ k, inBlkE va plen k → wr.heap.size ≤ k from fun k hk => Nat.le_trans hs7 (hnb k hk))
              have hrow9 := HJ.out.rowlt HT9.out
              rw [HKL.out] at hrow9
              have hs9 := HT9.out.size
              clear hq8 hown8 hrow8 hnb hB8 hs7 hlt7
              dsimp only
              go_wp2_with (at_builtin; refine wpList_append_own_at _ rfl _ _ 31 rfl w1.heap.size 30 ip (.agg #[.int .i64 0, .int .i64 0, .slice none 0 0, .int .i64 0, .int .i64 0, .int .i64 0, .int .i64 0, .int .i64 0, .bool false, .bool false]) 10 88 Tryz.underlying31 hip hpz0 hpz1 hpz2 rfl (by decide) _ _ _ rfl (hrow9.alloc _) ⟨w8.heap.size, 0, none⟩ 1 1 [.int .i64 pg, .int .i64 pk, .slice va plen vc, .int .i64 pht, .int .i64 phv, .int .i64 phc, .int .i64 pi, .int .i64 pt, .bool pm, .bool ph] rfl rfl (by have h := news_new (w8.setCell ⟨wr.heap.size, 2, none⟩ (.slice va plen vc)) 30 [.int .i64 pg, .int .i64 pk, .slice va plen vc, .int .i64 pht, .int .i64 phv, .int .i64 phc, .int .i64 pi, .int .i64 pt, .bool pm, .bool ph]; rwa [World.size_setCell] at h) (by simp [Value.oneCell']) (by unfold maxLen; omega) (by omega) (by simp; simp at hs9; omega) ?_; intro v' w9 hown9 hgrow9 _ hnew9)
              go_roundw
              case rel =>
                refine ⟨k + 1, F2, S ++ [(⟨⟨pg, pk, va, plen, vc, pht, phv, phc, pi, pt, pm, ph⟩, pl⟩ : PL)], by omega, by go_num, ?_, ?_⟩
                · rw [HTK.out, manF_snoc, ← HF0.out]
                  rw [if_neg (by decide), ← HJ.out.gs, ← HCE.out]
                · rw [HTK.out]
                  refine walkJ_step HJ.out (⟨⟨pg, pk, pa, plen, pcap, pht, phv, phc, pi, pt, pm, ph⟩, pl⟩ : PL) HT9.out HM9.out (by rw [← HJ.out.gs]; exact HF2.out) HN5.out HE9.out HNB.out ?_ _ (by rw [HKL.out]; exact hown9) hgrow9 hnew9
                  rw [← HJ.out.gs]
                  rw [HSX.out]; rfl
              case measure => simp [intOf]; omega
            · have hf1 : (f0 == 0) = false := by rw [beq_eq_false_iff_ne]; exact hf0
              have HFn := Lib.hid hf0
              clear hf0
              clear g0 g1 g2 g3 g4 g5 g6 fg
              go_wp2_with (fail)
              have HQ7 := Lib.hid (show w5.heap[wr.heap.size]? = _ from HQ5.out)
              have HP7 := Lib.hid (FrameT.refl (fun k => k = wr.heap.size) w5)
              clear p0 p1 p2 p3 p4 p5 p6 p7 p8 p9
              clear fp
              have HT7 := Lib.hid (HT5.out.far HP7.out (fun k hk => .inr (Nat.le_of_eq (Eq.symm hk))))
              have HW7 := Lib.hid (hW5.out.trans (HP7.out.toBelow hW5.out.size (fun k hk => by have := HJ.out.bel.size; omega)))
              refine (GC.out w5 HW7.out).mono ?_
              rintro e w8 ⟨v8, rfl, hown8, hB8⟩
              obtain ⟨va, vc, rfl, -, hrow8⟩ := rowV_own hown8
              have hnb := own_new hown8
              have hq8 := (hB8.block _ (heap_lt HQ7.out)).trans HQ7.out
              obtain ⟨p0, p1, p2, p3, p4, p5, p6, p7, p8, p9⟩ := arr10q hq8
              have fp := (fun i => frozen_of_row w8 wr.heap.size i _ _ hq8)
              have HP9 := Lib.hid (show FrameT (fun k => k = wr.heap.size) w5 (w8.setCell ⟨wr.heap.size, 2, none⟩ (.slice va plen vc)) from (HP7.out.trans (FrameT.below hB8)).trans (FrameT.setCell w8 wr.heap.size 2 (.slice va plen vc)))
              have HT9 := Lib.hid (HT5.out.far HP9.out (fun k hk => .inr (Nat.le_of_eq (Eq.symm hk))))
              have HM9 := Lib.hid (HM5.out.frame HP9.out (by show ¬ d' = wr.heap.size; have := HJ.out.low.2.2.1; omega) (by show ¬ m' = wr.heap.size; omega) HFAR.out)
              have hs7 := HT7.out.size
              have hlt7 := heap_lt HQ7.out
              have HE9 := Lib.hid (show HasE (w8.setCell ⟨wr.heap.size, 2, none⟩ (.slice va plen vc)) (⟨⟨pg, pk, va, plen, vc, pht, phv, phc, pi, pt, pm, ph⟩, pl⟩ : PL).1 (⟨⟨pg, pk, va, plen, vc, pht, phv, phc, pi, pt, pm, ph⟩, pl⟩ : PL).2 from hasE_frame (T := fun k => k = wr.heap.size) ⟨HEk.out.1, HEk.out.2.1, hrow8⟩ (FrameT.setCell _ _ _ _) (fun k hk e => by have := hnb k hk; omega))
              have HNB := Lib.hid (show ∀ k, inBlkE va plen k → wr.heap.size ≤ k from fun k hk => Nat.le_trans hs7 (hnb k hk))
              have hrow9 := HJ.out.rowlt HT9.out
              rw [HKL.out] at hrow9
              have hs9 := HT9.out.size
              clear hq8 hown8 hrow8 hnb hB8 hs7 hlt7
              dsimp only
              go_wp2_with (at_builtin; refine wpList_append_own_at _ rfl _ _ 31 rfl w1.heap.size 30 ip (.agg #[.int .i64 0, .int .i64 0, .slice none 0 0, .int .i64 0, .int .i64 0, .int .i64 0, .int .i64 0, .int .i64 0, .bool false, .bool false]) 10 88 Tryz.underlying31 hip hpz0 hpz1 hpz2 rfl (by decide) _ _ _ rfl (hrow9.alloc _) ⟨w8.heap.size, 0, none⟩ 1 1 [.int .i64 pg, .int .i64 pk, .slice va plen vc, .int .i64 pht, .int .i64 phv, .int .i64 phc, .int .i64 pi, .int .i64 pt, .bool pm, .bool ph] rfl rfl (by have h := news_new (w8.setCell ⟨wr.heap.size, 2, none⟩ (.slice va plen vc)) 30 [.int .i64 pg, .int .i64 pk, .slice va plen vc, .int .i64 pht, .int .i64 phv, .int .i64 phc, .int .i64 pi, .int .i64 pt, .bool pm, .bool ph]; rwa [World.size_setCell] at h) (by simp [Value.oneCell']) (by unfold maxLen; omega) (by omega) (by simp; simp at hs9; omega) ?_; intro v' w9 hown9 hgrow9 _ hnew9)
              go_roundw
              case rel =>
                refine ⟨k + 1, F2, S ++ [(⟨⟨pg, pk, va, plen, vc, pht, phv, phc, pi, pt, pm, ph⟩, pl⟩ : PL)], by omega, by go_num, ?_, ?_⟩
                · rw [HTK.out, manF_snoc, ← HF0.out]
                  rw [if_pos HFn.out]
                · rw [HTK.out]
                  refine walkJ_step HJ.out (⟨⟨pg, pk, pa, plen, pcap, pht, phv, phc, pi, pt, pm, ph⟩, pl⟩ : PL) HT9.out HM9.out (by rw [← HJ.out.gs]; exact HF2.out) HN5.out HE9.out HNB.out ?_ _ (by rw [HKL.out]; exact hown9) hgrow9 hnew9
                  rw [← HJ.out.gs]
                  rw [HSX.out]; rfl
              case measure => simp [intOf]; omega
    · obtain rfl : k = len := by omega
      have HTK := Lib.hid (show ps.take k = ps from List.take_of_length_le (by rw [HL.out]; exact Nat.le_refl _))
      rw [HTK.out] at hJ ⊢
      go_wp2
      go_ret3
      exact ⟨d', m', F', S, _, rfl, _, hJ⟩

end Go.Proofs.YthedmemkckclpaaGreat

/- slices.ContainsFunc at parts; (*Many).try, Check, Do, Settle. -/
namespace Go.Proofs.YthedmemkckclpaaGreat
open Go.RowKit Go.Shelf
set_option linter.unusedVariables false
attribute [local go_sem] Oper.semAt_some wide_fn wide_round_fn

/-- A part whose entries lie in w. -/
abbrev PLin (w : World) := {x : PL // HasE w x.1 x.2}
instance (w : World) : Inhabited (PLin w) := ⟨⟨⟨⟨0, 0, none, 0, 0, 0, 0, 0, 0, 0, false, false⟩, []⟩, hasE_nil rfl rfl⟩⟩
theorem refuses_any (a : Option Addr) (len cap : Nat) (ps : List PL) (w : World) (hp : HasP w a len ps) (h0 : 0 < len) : Gives Tryz.prog 34 #[.slice a len cap, .func (.func 35) #[] #[]] w (.bool (ps.any refP)) := by
  obtain ⟨hl, hm, hrow, hen⟩ := hp
  obtain ⟨b, off, rfl, hb, hc⟩ := hrow.2.2 h0
  have hzl : (ps.attach.map fun x => (⟨x.1, hen x.1 x.2⟩ : PLin w)).length = len := by rw [List.length_map, List.length_attach, hl]
  have hget : ∀ j (h : j < ps.length), (ps.attach.map fun x => (⟨x.1, hen x.1 x.2⟩ : PLin w))[j]!.1 = ps[j] := fun j h => by
    rw [List.getElem!_eq_getElem?_getD, List.getElem?_eq_getElem (by rw [List.length_map, List.length_attach]; exact h)]
    simp
  have eg : ∀ args W, (callFunc 35 args).run Tryz.prog W = .ok (.enter 35 args) W := enters_of Tryz.func35 (by kernel_rfl) rfl
  have h := AnyQ.slices_ContainsFunc Tryz.containsP 10 Tryz.isAgg30 Tryz.sizeOf30 (fun x : PLin w => x.1.1.arr.toList) (fun _ => rfl) (fun x => refP x.1) 35 #[] eg b off len cap (ps.attach.map fun x => (⟨x.1, hen x.1 x.2⟩ : PLin w)) w
    (fun W x hB => (refused_any x.1.1 x.1.2 W (x.2.below hB)).mono fun e w' ⟨he, hw⟩ => ⟨he, hB.trans (hw.mono hB.size)⟩) (by rw [hzl]; exact Nat.le_refl _) (by omega) hb (fun j hj i v hv => by
      rw [hzl] at hj
      rw [hget j (by omega)] at hv
      have hi : i < 10 := by
        have := (List.getElem?_eq_some_iff.1 hv).1
        exact this
      exact part_at hb (Below.refl _ _) hc (by omega) i v hi hv)
  rw [List.take_of_length_le (by rw [hzl]; exact Nat.le_refl _)] at h
  rw [show (ps.attach.map fun x => (⟨x.1, hen x.1 x.2⟩ : PLin w)).any (fun x => refP x.1) = ps.any refP by
    rw [List.any_map]
    show ps.attach.any (fun x => refP x.1) = _
    rw [List.any_eq, List.any_eq]
    simp] at h
  exact h
theorem recE_cases (s : Int) (L : List PL) : recE s L = 0 ∨ recE s L = 11 := by unfold recE; split <;> simp
/-- What try leaves. -/
def TryPost (W : World) (L : List GM) (ps : List PL) (e : Ending) (w' : World) : Prop :=
  ∃ p, e = .returned (.tuple #[p, .int .i64 (manT L ps)]) ∧ Below W.heap.size W w' ∧ (manT L ps = 0 → ∃ d' m' F', p = .pointer (some ⟨d', 0, none⟩) ∧ ManAt w' d' m' F' ∧ F'.map GV.g = manW L ps ∧ W.heap.size ≤ d')
set_option maxRecDepth 100000 in
set_option maxHeartbeats 1000000 in
theorem try_any {N : Nat} {W : World} {d m : Nat} {F : List GV} (h : ManAt W d m F) (hN : manOK N (F.map GV.g)) (a : Option Addr) (len cap : Nat) (ps : List PL) (hp : HasP W a len ps) (hN5 : N + 6 * len ≤ 100000) (hg : ∀ x ∈ ps, -9223372036854775808 ≤ x.1.g ∧ x.1.g < 9223372036854775808) :
    Calls Tryz.prog 27 #[.pointer (some ⟨d, 0, none⟩), .slice a len cap] W (TryPost W (F.map GV.g) ps) := by
  have hl := hp.1
  have no : ∀ w', Below W.heap.size W w' → manT (F.map GV.g) ps = 11 → TryPost W (F.map GV.g) ps (.returned (.tuple #[.pointer none, .int .i64 11])) w' := fun w' hB h => ⟨_, by rw [h], hB, fun h0 => by rw [h] at h0; cases h0⟩
  by_cases h1 : len < 1
  · have HE := Lib.hid (fun w' (hB : Below W.heap.size W w') => no w' hB (by unfold manT; rw [if_pos (.inl (by omega))]))
    have hi : (len : Int) < 1 := by omega
    clear no h hN hp hg hl h1
    go_enter Tryz.func27, Tryz.ntmps27
    go_wp2
    go_ret2
    exact HE.out _ (Below.refl _ _)
  by_cases h4 : 4 < len
  · have HE := Lib.hid (fun w' (hB : Below W.heap.size W w') => no w' hB (by unfold manT; rw [if_pos (.inr (.inl (by omega)))]))
    have hi : (4 : Int) < (len : Int) := by omega
    have hi1 : (1 : Int) ≤ (len : Int) := by omega
    clear no h hN hp hg hl h1 h4
    go_enter Tryz.func27, Tryz.ntmps27
    go_wp2
    go_ret2
    exact HE.out _ (Below.refl _ _)
  have hi1 : (1 : Int) ≤ (len : Int) := by omega
  have hi4 : (len : Int) ≤ 4 := by omega
  have GC := Lib.hid (refuses_any a len cap ps W hp (by omega))
  unfold Gives at GC
  cases hr : ps.any refP
  · rw [hr] at GC
    have hT : manT (F.map GV.g) ps = manF (F.map GV.g) ps := by unfold manT; rw [if_neg (by rw [hr]; rintro (h | h | h); (omega); (omega); (cases h))]
    have GW := Lib.hid (fun W' (hB : Below W.heap.size W W') => walk_any (h.below hB) hN a len cap ps (hp.below hB) hN5 hg)
    have HY := Lib.hid (fun (w' : World) (p : Nat) (hB : Below W.heap.size W w') (h0 : ∃ m' F', ManAt w' p m' F' ∧ F'.map GV.g = manW (F.map GV.g) ps ∧ W.heap.size ≤ p) => (show TryPost W (F.map GV.g) ps (.returned (.tuple #[.pointer (some ⟨p, 0, none⟩), .int .i64 (manF (F.map GV.g) ps)])) w' from
      ⟨_, by rw [hT], hB, fun _ => by obtain ⟨m', F', h1, h2, h3⟩ := h0; exact ⟨p, m', F', rfl, h1, h2, h3⟩⟩))
    have HL := Lib.hid hl
    clear no h hN hp hg hl h1 h4 hT hr
    generalize manF (F.map GV.g) ps = f at *
    go_enter Tryz.func27, Tryz.ntmps27
    go_wp2_with (first
      | (go_at_call 34; ((with_reducible refine GC.out.mono ?_); rintro e w1 ⟨rfl, hB1⟩))
      | (go_at_call 36; ((with_reducible refine (GW.out _ hB1).mono ?_); rintro e w2 ⟨d', m', F', S, v, rfl, C, hJ⟩; have hJB := bel2 hB1 hJ.bel; obtain ⟨va, vc, rfl, hvc, hvr⟩ := rowV_own hJ.row; have HS := Lib.hid (show HasP w2 va ps.length S from ⟨hJ.len, by rw [HL.out]; omega, hvr, fun x hx => (hJ.ents x hx).1⟩); have GB := Lib.hid (recBytes_any 1125899906842624 va ps.length vc S w2 HS.out); have hz12 : (recE 1125899906842624 S == 12) = false := (by rcases recE_cases 1125899906842624 S with h | h <;> rw [h] <;> rfl); generalize recE 1125899906842624 S = re at *; generalize recS 1125899906842624 S = rs at *; unfold Gives at GB))
      | (go_at_call 37; ((with_reducible refine GB.out.mono ?_); rintro e w3 ⟨rfl, hB3⟩)))
    go_ret2
    exact HY.out _ _ (bel2 hJB hB3) ⟨m', F', hJ.man.below hB3, hJ.gs, Nat.le_trans hB1.size hJ.low.1⟩
  · rw [hr] at GC
    have HE := Lib.hid (fun w' (hB : Below W.heap.size W w') => no w' hB (by unfold manT; rw [if_pos (.inr (.inr hr))]))
    clear no h hN hp hg hl h1 h4 hr
    go_enter Tryz.func27, Tryz.ntmps27
    go_wp2_with (go_at_call 34; ((with_reducible refine GC.out.mono ?_); rintro e w1 ⟨rfl, hB1⟩))
    go_ret2
    exact HE.out _ hB1
set_option maxRecDepth 100000 in
theorem mdoall_any {N : Nat} {W : World} {d m : Nat} {F : List GV} (h : ManAt W d m F) (hN : manOK N (F.map GV.g)) (a : Option Addr) (len cap : Nat) (ps : List PL) (hp : HasP W a len ps) (hN5 : N + 6 * len ≤ 100000) (hg : ∀ x ∈ ps, -9223372036854775808 ≤ x.1.g ∧ x.1.g < 9223372036854775808) :
    Calls Tryz.prog 18 #[.pointer (some ⟨d, 0, none⟩), .slice a len cap] W fun e w' => e = .returned (.int .i64 (manT (F.map GV.g) ps)) ∧ ∃ m' F', ManAt w' d m' F' ∧ F'.map GV.g = manDo (F.map GV.g) ps ∧ FrameT (fun k => k = d) W w' := by
  have GT := Lib.hid (try_any h hN a len cap ps hp hN5 hg)
  have HM := Lib.hid h
  unfold manDo
  clear h hN hp hg
  unfold TryPost at *
  by_cases ht : manT (F.map GV.g) ps = 0
  · rw [if_pos ht]
    rw [ht] at GT ⊢
    clear ht
    go_enter Tryz.func18, Tryz.ntmps18
    go_wp2_with (go_at_call 27; ((with_reducible refine GT.out.mono ?_); rintro e w1 ⟨p, rfl, hB, h0⟩; obtain ⟨d', m', F', rfl, hM', hF', hd'⟩ := h0 rfl; have c0 := cell_of_row w1 d' 0 _ _ _ hM'.1; have c1 := cell_of_row w1 d 0 _ _ _ (HM.out.below hB).1; have f1 := frozen_of_row w1 d 0 _ _ (HM.out.below hB).1))
    go_ret
    have hd0 := heap_setCell_same w1 d 0 _ _ (.map (some m')) (HM.out.below hB).1
    refine ⟨rfl, m', F', ⟨hd0, hM'.2.frame (FrameT.setCell w1 d 0 (.map (some m'))) (fun e => ?_) (fun y hy k hk e => (hM'.2.has y hy).not_cell (HM.out.below hB).1 k hk e)⟩, hF', (FrameT.below hB).trans (FrameT.setCell w1 d 0 _)⟩
    obtain ⟨es, clock, hb⟩ := hM'.2.block
    rw [e, (HM.out.below hB).1] at hb; cases hb
  · rw [if_neg ht]
    generalize manT (F.map GV.g) ps = t at *
    have ht' : (t == 0) = false := by rw [beq_eq_false_iff_ne]; exact ht
    clear ht
    go_enter Tryz.func18, Tryz.ntmps18
    go_wp2_with (go_at_call 27; ((with_reducible refine GT.out.mono ?_); rintro e w1 ⟨p, rfl, hB, -⟩))
    go_ret
    exact ⟨rfl, m, F, HM.out.below hB, rfl, FrameT.below hB⟩
/-- The settled parts, in new memory. -/
def SetPost (W : World) (L : List GM) (ps : List PL) (e : Ending) (w' : World) : Prop :=
  ∃ a c S, e = .returned (.slice a ps.length c) ∧ HasP w' a ps.length S ∧ S.map core = (manS L ps).map core ∧ ps.length ≤ c ∧ Below W.heap.size W w'
end Go.Proofs.YthedmemkckclpaaGreat

/- What ladelaw7.app makes. -/
namespace Go.Proofs.YthedmemkckclpaaGreat
open Go.RowKit Go.Shelf
set_option linter.unusedVariables false
attribute [local go_sem] Oper.semAt_some wide_fn wide_round_fn

/-- A part that appends one entry. -/
def appP (g : Int) (a : Option Addr) (c : Nat) : PartC := ⟨g, 1, a, 1, c, 0, 0, 0, 0, 0, false, false⟩
def appE (i : Int) (s : ByteArray) : List EntryC := [⟨i, 3, s⟩]
end Go.Proofs.YthedmemkckclpaaGreat
