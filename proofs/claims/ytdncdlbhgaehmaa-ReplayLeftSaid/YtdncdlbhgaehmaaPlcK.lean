/- PlcA, PlcC, PlcK: in one text. -/
import Derived.Test.YtdncdlbhgaehmaaPlcDo
import Derived.Test.YtdncdlbhgaehmaaPlcSp
import Derived.Test.YtdncdlbhgaehmaaSprM
import Derived.Test.YtdncdlbhgaehmaaPlc0
/- A log as plain data; a part done to it (package place). -/
namespace Go.Proofs.Ytdncdlbhgaehmaa
open Go.RowKit Go.Shelf
set_option linter.unusedVariables false
attribute [local go_sem] Oper.semAt_some wide_fn wide_round_fn

theorem entT_bdP {l : List EntryC} (h : ∀ e ∈ l, entryB e = true) (i : Int) : 0 ≤ entT l i ∧ entT l i ≤ 1099511627776 := by
  unfold entT
  cases hb : btw l i i with
  | nil => simp
  | cons y r =>
    have hy : y ∈ btw l i i := by rw [hb]; simp
    have h1 := (entryB_bd (h y (List.mem_filter.1 hy).1)).2.1
    simp only [List.head?_cons, Option.map_some, Option.getD_some]
    omega
theorem isB_ris {p : PartC} {pl : List EntryC} (h : isB p pl = true) : Ris pl ∧ ∀ e ∈ pl, entryB e = true := by
  have key : pl = [] ∨ ∃ f, sprB pl f = true := by
    rcases (isB_iff p pl).1 h with ⟨_, h | h | h | h | h | h⟩
    · exact .inr ⟨_, dense_spr (are_dense h.2.2.1)⟩
    · exact .inl h.2.2.1
    · exact .inl h.2.2.2.1
    · exact .inl h.2.2.2.1
    · exact .inl h.2.1
    · have hf := h.2.1
      unfold isFwdB at hf
      simp only [Bool.and_eq_true] at hf
      exact .inr ⟨_, are_spr ⟨by decide, by decide⟩ hf.2.2.2⟩
  rcases key with rfl | ⟨f, h⟩
  · exact ⟨fun j k hj hk => by simp at hk, by simp⟩
  · exact ⟨sprB_ris h, (sprB_iff.1 h).1⟩
theorem cmpG_isSp {g : GM} {p : PartC} (hI : isSp g = true) (hi : wB p.i 1 1099511627776 = true) (ht : wB p.t 1 1099511627776 = true ∨ p.t = 0) : isSp (cmpG g p) = true := by
  unfold cmpG
  split
  · exact hI
  · have h0 := isSp_iff.1 hI
    have hi := wB_bd hi
    obtain ⟨h1, h2, h3⟩ := sprB_iff.1 h0.2.2
    have hr := ris_pw.2 h3
    refine isSp_iff.2 ⟨⟨h0.1.1, ⟨by show 1 ≤ p.i + 1; omega, by show p.i + 1 ≤ _; omega⟩, ?_⟩, h0.2.1, sprB_iff.2 ⟨fun e he => h1 e ((fro_mem hr).1 he).1, fun e he => ((fro_mem hr).1 he).2, h3.sublist (List.drop_sublist _ _)⟩⟩
    show 0 ≤ (if p.t = 0 then entT g.l p.i else p.t) ∧ (if p.t = 0 then entT g.l p.i else p.t) ≤ 1099511627776
    split
    · exact entT_bdP h1 p.i
    · rcases ht with ht | ht
      · have := wB_bd ht; omega
      · omega
theorem snpG_isSp {g : GM} {p : PartC} (hI : isSp g = true) (hi : wB p.i 1 1099511627776 = true) (ht : wB p.t 1 1099511627776 = true) : isSp (snpG g p) = true := by
  unfold snpG
  split
  · exact hI
  · have h0 := isSp_iff.1 hI
    have hi := wB_bd hi
    have ht := wB_bd ht
    exact isSp_iff.2 ⟨⟨h0.1.1, ⟨by show 1 ≤ p.i + 1; omega, by show p.i + 1 ≤ _; omega⟩, ⟨by show 0 ≤ p.t; omega, by show p.t ≤ _; omega⟩⟩, h0.2.1, rfl⟩
theorem hrdG_isSp {g : GM} {p : PartC} (hI : isSp g = true) (hh : hardB p.ht p.hv p.hc = true) : isSp (hrdG g p) = true := by
  have h0 := isSp_iff.1 hI
  exact isSp_iff.2 ⟨h0.1, hh, h0.2.2⟩
theorem doSp_isSp {g : GM} {p : PartC} {pl : List EntryC} (hI : isSp g = true) : isSp (doSp g p pl) = true := by
  by_cases hok : isSp g = true ∧ isB p pl = true ∧ p.g = g.id
  · obtain ⟨-, hB, hg⟩ := hok
    obtain ⟨hr, he⟩ := isB_ris hB
    obtain ⟨-, h⟩ := (isB_iff p pl).1 hB
    have h0 := isSp_iff.1 hI
    rcases h with h | h | h | h | h | h
    · rw [doSp_1 hI hB hg h.1]
      refine addG_isSp ?_ he hr
      obtain ⟨h1, h2, h3⟩ := sprB_iff.1 h0.2.2
      exact isSp_iff.2 ⟨h0.1, h0.2.1, sprB_iff.2 ⟨fun e he => h1 e (List.mem_of_mem_take he), fun e he => h2 e (List.mem_of_mem_take he), h3.sublist (List.take_sublist _ _)⟩⟩
    · rw [doSp_2 hI hB hg h.1]; exact hrdG_isSp hI h.2.1
    · rw [doSp_3 hI hB hg h.1]; exact cmpG_isSp hI h.2.1 h.2.2.1
    · rw [doSp_4 hI hB hg h.1]; exact snpG_isSp hI h.2.1 h.2.2.1
    · rw [doSp_5 hI hB hg h.1]; exact hI
    · rw [doSp_6 hI hB hg h.1]
      have hf := h.2.1
      unfold isFwdB at hf
      simp only [Bool.and_eq_true, Bool.or_eq_true, Bool.not_eq_true'] at hf
      have hc : p.m = true → isSp (cmpG g p) = true := fun hm => by
        rcases hf.2.1 with h1 | h1
        · rw [hm] at h1; cases h1
        · exact cmpG_isSp hI h1.1 (.inl h1.2)
      have hh : p.h = true → hardB p.ht p.hv p.hc = true := fun hm => by
        rcases hf.2.2.1 with h1 | h1
        · rw [hm] at h1; cases h1
        · exact h1
      refine addG_isSp ?_ he hr
      split
      · rename_i h1
        refine hrdG_isSp ?_ (hh h1)
        split
        · rename_i h2; exact hc h2
        · exact hI
      · split
        · rename_i h2; exact hc h2
        · exact hI
  · rw [show doSp g p pl = g from if_neg hok]; exact hI
theorem cmpG_len (g : GM) (p : PartC) : (cmpG g p).l.length ≤ g.l.length ∧ (cmpG g p).id = g.id := by
  unfold cmpG
  split
  · exact ⟨Nat.le_refl _, rfl⟩
  · exact ⟨by rw [List.length_drop]; omega, rfl⟩
theorem snpG_len (g : GM) (p : PartC) : (snpG g p).l.length ≤ g.l.length ∧ (snpG g p).id = g.id := by
  unfold snpG
  split
  · exact ⟨Nat.le_refl _, rfl⟩
  · exact ⟨by simp, rfl⟩
theorem addG_len (g : GM) (M : List EntryC) : (addG g M).l.length ≤ g.l.length + M.length ∧ (addG g M).id = g.id := by
  refine ⟨?_, rfl⟩
  have := mrg_len g.l (M.drop (fnd M g.fi))
  rw [List.length_drop] at this
  show (mrg g.l (M.drop (fnd M g.fi))).length ≤ _
  omega
theorem doSp_len (g : GM) (p : PartC) (pl : List EntryC) : (doSp g p pl).l.length ≤ g.l.length + pl.length ∧ (doSp g p pl).id = g.id := by
  unfold doSp
  have h0 : g.l.length ≤ g.l.length + pl.length ∧ g.id = g.id := ⟨by omega, rfl⟩
  have hc := cmpG_len g p
  split
  · split
    · have := addG_len { g with l := g.l.take (fnd g.l (headI pl)) } pl
      have h2 : (g.l.take (fnd g.l (headI pl))).length ≤ g.l.length := by rw [List.length_take]; omega
      exact ⟨by have := this.1; simp only at this; omega, this.2⟩
    · split
      · exact h0
      · split
        · exact ⟨by omega, hc.2⟩
        · split
          · have := snpG_len g p; exact ⟨by omega, this.2⟩
          · split
            · have key : ∀ D : GM, D.l.length ≤ g.l.length ∧ D.id = g.id → (addG D pl).l.length ≤ g.l.length + pl.length ∧ (addG D pl).id = g.id := fun D hD => by have := addG_len D pl; exact ⟨by omega, this.2.trans hD.2⟩
              apply key
              split
              · unfold hrdG
                split
                · exact hc
                · exact ⟨Nat.le_refl _, rfl⟩
              · split
                · exact hc
                · exact ⟨Nat.le_refl _, rfl⟩
            · exact h0
  · exact h0

/-- A log: its group, where its things lie. -/
structure LG where
  g : GM
  F : List LV
/-- What a part at a place makes of a log. -/
def doLG (L : LG) (p : PartC) (pl : List EntryC) (s t : Int) : LG :=
  if isB p pl = true ∧ p.g = L.g.id ∧ p.k ≠ 5 then ⟨doSp L.g p pl, putAll s t (delAll L.F (gonL L.g.l (doSp L.g p pl).l)) (brgL (doSp L.g p pl) p pl L.g.fi)⟩ else L
def okLG (N : Nat) (L : LG) : Prop := isSp L.g = true ∧ L.g.l.length ≤ N ∧ L.F.length ≤ N
theorem doLG_ok {N : Nat} {L : LG} (h : okLG N L) (p : PartC) (pl : List EntryC) (s t : Int) : okLG (N + (pl.length + 2)) (doLG L p pl s t) := by
  unfold doLG
  split
  · refine ⟨doSp_isSp h.1, ?_, ?_⟩
    · have := (doSp_len L.g p pl).1
      have := h.2.1
      show (doSp L.g p pl).l.length ≤ _
      omega
    · have h1 := delAll_len (gonL L.g.l (doSp L.g p pl).l) L.F
      have h2 := putAll_len s t (brgL (doSp L.g p pl) p pl L.g.fi) (delAll L.F (gonL L.g.l (doSp L.g p pl).l))
      have h3 := brgL_len (doSp L.g p pl) p pl L.g.fi
      have := h.2.2
      show (putAll s t _ _).length ≤ _
      omega
  · exact ⟨h.1, by have := h.2.1; omega, by have := h.2.2; omega⟩
theorem doLG_id (L : LG) (p : PartC) (pl : List EntryC) (s t : Int) : (doLG L p pl s t).g.id = L.g.id := by
  unfold doLG
  split
  · exact (doSp_len L.g p pl).2
  · rfl
/-- A pointer d to a log whose map is m. -/
def LogS (W : World) (d m : Nat) (L : LG) : Prop := m ≠ d ∧ ∃ a c, LogAt W d m L.g a c L.F
theorem LogS.below {W W' : World} {d m : Nat} {L : LG} (h : LogS W d m L) (hB : Below W.heap.size W W') : LogS W' d m L := by
  obtain ⟨h0, a, c, h⟩ := h
  exact ⟨h0, a, c, h.below hB⟩
theorem LogS.lt {W : World} {d m : Nat} {L : LG} (h : LogS W d m L) : d < W.heap.size ∧ m < W.heap.size := by
  obtain ⟨_, a, c, h⟩ := h
  exact ⟨heap_lt h.1, h.2.1.lt⟩
theorem LogS.frame {T : Nat → Prop} {W W' : World} {d m : Nat} {L : LG} (h : LogS W d m L) (hF : FrameT T W W') (hd : ¬ T d) (hm : ¬ T m) (hT : ∀ (a : Option Addr) (l : List EntryC), RowV W a l.length 3 (entryCells l) → ∀ k, inBlkE a l.length k → ¬ T k) : LogS W' d m L := by
  obtain ⟨h0, a, c, h⟩ := h
  exact ⟨h0, a, c, h.frame hF hd hm (hT a L.g.l h.2.2.1.2)⟩
/-- Another log turns. -/
theorem LogS.other {W W' : World} {d m d2 m2 : Nat} {L L2 : LG} (h : LogS W d m L) (h2 : LogS W d2 m2 L2) (hF : FrameT (fun k => k = d2 ∨ k = m2) W W') (hd : d ≠ d2 ∧ d ≠ m2) (hm : m ≠ d2 ∧ m ≠ m2) : LogS W' d m L := by
  obtain ⟨_, a2, c2, h2⟩ := h2
  refine h.frame hF (by omega) (by omega) (fun a l hr k hk => ?_)
  have h3 := rowV_not_d h2.1 hr k hk
  have h4 := rowV_not_m h2.2.1 hr k hk
  omega
/-- (*Log).Do at whatever part. -/
theorem pdo_any {W : World} {d m N : Nat} {L : LG} (h : LogS W d m L) (hok : okLG N L) (hN : N ≤ 100000) (p : PartC) (pl : List EntryC) (hpe : HasE W p pl) (hpc : pl.length ≤ p.cap) (hpl : pl.length < 100000) (s t : Int) :
    Calls Try.prog 46 #[.pointer (some ⟨d, 0, none⟩), p.val, .agg #[.int .i64 s, .int .i64 t]] W fun e w' => (∃ v, e = .returned v) ∧ LogS w' d m (doLG L p pl s t) ∧ FrameT (fun k => k = d ∨ k = m) W w' := by
  obtain ⟨h0, a, c, h⟩ := h
  obtain ⟨⟨id, fi, te, ht, hv, hc, l⟩, F⟩ := L
  obtain ⟨pg, pk, pa, plen, pcap, pht, phv, phc, pi, pt, pm, ph⟩ := p
  by_cases hq : isB ⟨pg, pk, pa, plen, pcap, pht, phv, phc, pi, pt, pm, ph⟩ pl = true ∧ pg = id ∧ pk ≠ 5
  · have h2 := doSp_isSp (g := ⟨id, fi, te, ht, hv, hc, l⟩) (p := ⟨pg, pk, pa, plen, pcap, pht, phv, phc, pi, pt, pm, ph⟩) (pl := pl) hok.1
    have h3 := (doSp_len ⟨id, fi, te, ht, hv, hc, l⟩ ⟨pg, pk, pa, plen, pcap, pht, phv, phc, pi, pt, pm, ph⟩ pl).1
    have h4 : l.length ≤ N := hok.2.1
    have h5 : F.length ≤ N := hok.2.2
    dsimp only at h3
    refine (pdo_yes id fi te ht hv hc l h pg pk pa plen pcap pht phv phc pi pt pm ph pl s t hpe hq hpc h0 (by omega) hok.1 h2 (by omega) (show F.length < 10000000 by omega)).mono ?_
    rintro e w' ⟨h6, a', c', h7, h8⟩
    refine ⟨h6, ⟨h0, a', c', ?_⟩, h8⟩
    rw [show doLG ⟨⟨id, fi, te, ht, hv, hc, l⟩, F⟩ ⟨pg, pk, pa, plen, pcap, pht, phv, phc, pi, pt, pm, ph⟩ pl s t = ⟨doSp ⟨id, fi, te, ht, hv, hc, l⟩ ⟨pg, pk, pa, plen, pcap, pht, phv, phc, pi, pt, pm, ph⟩ pl, _⟩ from if_pos hq]
    exact h7
  · refine (pdo_no id fi te ht hv hc l h pg pk pa plen pcap pht phv phc pi pt pm ph pl s t hpe (by cases hb : isB ⟨pg, pk, pa, plen, pcap, pht, phv, phc, pi, pt, pm, ph⟩ pl; exact .inl rfl; exact .inr (by by_cases h1 : pg = id; exact .inr (Decidable.byContradiction fun h9 => hq ⟨hb, h1, h9⟩); exact .inl h1))).mono ?_
    rintro e w' ⟨h6, hB⟩
    rw [show doLG ⟨⟨id, fi, te, ht, hv, hc, l⟩, F⟩ ⟨pg, pk, pa, plen, pcap, pht, phv, phc, pi, pt, pm, ph⟩ pl s t = ⟨⟨id, fi, te, ht, hv, hc, l⟩, F⟩ from if_neg hq]
    exact ⟨h6, ⟨h0, a, c, h.below hB⟩, FrameT.below hB⟩
/-- New. -/
theorem pnewS_any (id : Int) (W : World) : Calls Try.prog 70 #[.int .i64 id] W fun e w' => ∃ d m, e = .returned (.pointer (some ⟨d, 0, none⟩)) ∧ W.heap.size ≤ m ∧ m < d ∧ LogS w' d m ⟨newP id, []⟩ ∧ Below W.heap.size W w' := by
  refine (pnew_any id W).mono ?_
  rintro e w' ⟨d, m, rfl, h1, h2, h3, h4⟩
  exact ⟨d, m, rfl, h1, h2, ⟨by omega, none, 0, h3⟩, h4⟩
theorem newP_ok {id : Int} (h : 0 ≤ id ∧ id ≤ 999) : okLG 0 ⟨newP id, []⟩ := ⟨spr_new h ⟨by decide, by decide⟩ ⟨by decide, by decide⟩, Nat.le_refl _, Nat.le_refl _⟩
/-- The group of a log. -/
theorem pgroupS_any {W : World} {d m : Nat} {L : LG} (h : LogS W d m L) : Calls Try.prog 52 #[.pointer (some ⟨d, 0, none⟩)] W fun e w' => ∃ va vc, e = .returned (L.g.val va vc) ∧ HasG w' va L.g ∧ L.g.l.length ≤ vc ∧ Below W.heap.size W w' := by
  obtain ⟨_, a, c, h⟩ := h
  exact pgroup_any h.g

end Go.Proofs.Ytdncdlbhgaehmaa

/- Find, Copy, Spots of a log (package place). -/
namespace Go.Proofs.Ytdncdlbhgaehmaa
open Go.RowKit Go.Shelf
set_option linter.unusedVariables false
set_option linter.unusedSimpArgs false
attribute [local go_sem] Oper.semAt_some wide_fn wide_round_fn
attribute [local irreducible] wpQuietIn

/-- What Find tells. -/
def findP (L : LG) (i : Int) : Int × Int := if hasB L.g.l i = true then (plcS L.F i, plcT L.F i) else (0, 0)
theorem find_boxP (W : World) : (W.alloc (.cells #[.int .i64 0, .int .i64 0] 34)).heap[W.heap.size]? = some (.cells #[.int .i64 0, .int .i64 0] 34 (0, 0)) := World.alloc_heap_new W _
theorem set2_block {W : World} {b : Nat} {T : TypeId} {z0 z1 : Value} (h : W.heap[b]? = some (.cells #[z0, z1] T (0, 0))) (v0 v1 : Value) : ((W.setCell ⟨b, 0, none⟩ v0).setCell ⟨b, 1, none⟩ v1).heap[b]? = some (.cells #[v0, v1] T (0, 0)) := by
  have h0 := Go.Joins.block_setCell h v0 (i := 0)
  have h1 := Go.Joins.block_setCell h0 v1 (i := 1)
  simpa only [List.setIfInBounds_toArray, List.set_cons_succ, List.set_cons_zero] using h1
theorem wf_entP {g : GM} (hI : isSp g = true) : ∀ e ∈ g.l, (Lit.int .i64 e.i).wf = true := fun e he => by
  have := (entryB_bd ((sprB_iff.1 (isSp_iff.1 hI).2.2).1 e he)).1
  exact wfP (by omega)
theorem pspotsS_any {W : World} {d m : Nat} {L : LG} (h : LogS W d m L) (hI : isSp L.g = true) :
    Calls Try.prog 54 #[.pointer (some ⟨d, 0, none⟩)] W fun e w' => ∃ va vc, e = .returned (.slice va (spotsL L.g L.F).length vc) ∧ RowV w' va (spotsL L.g L.F).length 4 (spotCells (spotsL L.g L.F)) ∧ (spotsL L.g L.F).length ≤ vc ∧ Below W.heap.size W w' := by
  obtain ⟨_, a, c, h⟩ := h
  exact pspots_any h (wf_entP hI)
theorem pclone_any {W : World} {m : Nat} {F : List LV} (h : HasPl W m F) : Calls Try.prog 100 #[.map (some m)] W fun e w' => e = .returned (.map (some W.heap.size)) ∧ HasPl w' W.heap.size F ∧ Below W.heap.size W w' := by
  have h0 : Calls Try.prog 100 #[.map (some m)] W fun e w' => e = .returned (.map (some W.heap.size)) ∧ w'.ownsMap Try.prog 3 plcElem W.heap.size F.length (pmap F) ∧ w'.ownsMap Try.prog 3 plcElem m F.length (pmap F) ∧ Below W.heap.size W w' := AnyW.maps_Clone_owns Try.cloneP 3 plcElem m F.length (pmap F) W h
  refine h0.mono ?_
  rintro e w' ⟨rfl, h1, _, hB⟩
  exact ⟨rfl, h1, hB⟩
set_option maxRecDepth 100000 in
set_option maxHeartbeats 2000000 in
theorem pcopyS_any {W : World} {d m : Nat} {L : LG} (h : LogS W d m L) :
    Calls Try.prog 74 #[.pointer (some ⟨d, 0, none⟩)] W fun e w' => ∃ d' m', e = .returned (.pointer (some ⟨d', 0, none⟩)) ∧ W.heap.size ≤ m' ∧ m' < d' ∧ LogS w' d' m' L ∧ Below W.heap.size W w' := by
  have hmx : Try.prog.follows .mixedOrders = true := by kernel_rfl
  obtain ⟨h0, a, c, h⟩ := h
  obtain ⟨⟨id, fi, te, ht, hv, hc, l⟩, F⟩ := L
  have HL := Lib.hid h
  have GC := Lib.hid (fun W' (hB : Below W.heap.size W W') => pclone_any (h.below hB).2.1)
  clear h
  refine (callsIn_wide (n := 9)).1 ?_
  refine callsIn_of_wp_marks Try.func74 rfl trivial ?_ rfl
  simp only [Try.ntmps74, List.size_toArray, List.length_cons, List.length_nil, Nat.reduceAdd, Nat.reduceSub, Array.replicate_succ, Array.replicate_zero, List.push_toArray, List.append_toArray, List.nil_append, List.cons_append]
  gi_wp2
  refine wpIn_of_heldP (S := fun W' => W'.heap[d]? = some (.cells #[.int .i64 id, .int .i64 fi, .int .i64 te, .int .i64 ht, .int .i64 hv, .int .i64 hc, .slice a l.length c, .map (some m)] 124 (0, 0))) hmx (by kernel_rfl) ⟨none, rfl⟩ HL.out.1 (fun hHeld => ?_)
  refine wpAnyH_take (i := 0) (v := .pointer (some ⟨d, 0, none⟩)) rfl (by kernel_rfl) (by kernel_rfl) (by kernel_rfl) (fun _ _ _ h => absurd h.1 (by simp)) (Or.inl ⟨by rfl, fun w hSw => by obtain ⟨c0, c1, c2, c3, c4, c5, c6, c7⟩ := cells8 hSw; go_simp⟩) hHeld ?_
  try simp only [Act.put, List.getElem_toArray, List.getElem_cons_succ, List.getElem_cons_zero, List.setIfInBounds_toArray, List.set_cons_zero, List.set_cons_succ]
  refine wpAnyH_take (i := 1) (v := .pointer (some ⟨d, 0, none⟩)) rfl (by kernel_rfl) (by kernel_rfl) (by kernel_rfl) (fun _ _ _ h => absurd h.1 (by simp)) (Or.inl ⟨by rfl, fun w hSw => by obtain ⟨c0, c1, c2, c3, c4, c5, c6, c7⟩ := cells8 hSw; go_simp⟩) hHeld ?_
  try simp only [Act.put, List.getElem_toArray, List.getElem_cons_succ, List.getElem_cons_zero, List.setIfInBounds_toArray, List.set_cons_zero, List.set_cons_succ]
  refine wpAnyH_take (i := 2) (v := .pointer (some ⟨d, 0, none⟩)) rfl (by kernel_rfl) (by kernel_rfl) (by kernel_rfl) (fun _ _ _ h => absurd h.1 (by simp)) (Or.inl ⟨by rfl, fun w hSw => by obtain ⟨c0, c1, c2, c3, c4, c5, c6, c7⟩ := cells8 hSw; go_simp⟩) hHeld ?_
  try simp only [Act.put, List.getElem_toArray, List.getElem_cons_succ, List.getElem_cons_zero, List.setIfInBounds_toArray, List.set_cons_zero, List.set_cons_succ]
  refine wpAnyH_take (i := 3) (v := .agg #[.int .i64 id, .int .i64 fi, .int .i64 te, .int .i64 ht, .int .i64 hv, .int .i64 hc, .slice a l.length c]) rfl (by kernel_rfl) (by kernel_rfl) (by kernel_rfl) (fun _ _ _ h => absurd h.1 (by simp)) (Or.inl ⟨by rfl, fun w hSw => by obtain ⟨c0, c1, c2, c3, c4, c5, c6, c7⟩ := cells8 hSw; go_simp⟩) hHeld ?_
  try simp only [Act.put, List.getElem_toArray, List.getElem_cons_succ, List.getElem_cons_zero, List.setIfInBounds_toArray, List.set_cons_zero, List.set_cons_succ]
  refine wpAnyH_take (i := 4) (v := .pointer (some ⟨d, 0, none⟩)) rfl (by kernel_rfl) (by kernel_rfl) (by kernel_rfl) (fun _ _ _ h => absurd h.1 (by simp)) (Or.inl ⟨by rfl, fun w hSw => by obtain ⟨c0, c1, c2, c3, c4, c5, c6, c7⟩ := cells8 hSw; go_simp⟩) hHeld ?_
  try simp only [Act.put, List.getElem_toArray, List.getElem_cons_succ, List.getElem_cons_zero, List.setIfInBounds_toArray, List.set_cons_zero, List.set_cons_succ]
  refine wpAnyH_take (i := 5) (v := .pointer (some ⟨d, 0, none⟩)) rfl (by kernel_rfl) (by kernel_rfl) (by kernel_rfl) (fun _ _ _ h => absurd h.1 (by simp)) (Or.inl ⟨by rfl, fun w hSw => by obtain ⟨c0, c1, c2, c3, c4, c5, c6, c7⟩ := cells8 hSw; go_simp⟩) hHeld ?_
  try simp only [Act.put, List.getElem_toArray, List.getElem_cons_succ, List.getElem_cons_zero, List.setIfInBounds_toArray, List.set_cons_zero, List.set_cons_succ]
  refine wpAnyH_take (i := 6) (v := .pointer (some ⟨d, 7, none⟩)) rfl (by kernel_rfl) (by kernel_rfl) (by kernel_rfl) (fun _ _ _ h => absurd h.1 (by simp)) (Or.inl ⟨by rfl, fun w hSw => by obtain ⟨c0, c1, c2, c3, c4, c5, c6, c7⟩ := cells8 hSw; go_simp⟩) hHeld ?_
  try simp only [Act.put, List.getElem_toArray, List.getElem_cons_succ, List.getElem_cons_zero, List.setIfInBounds_toArray, List.set_cons_zero, List.set_cons_succ]
  refine wpAnyH_take (i := 7) (v := .map (some m)) rfl (by kernel_rfl) (by kernel_rfl) (by kernel_rfl) (fun _ _ _ h => absurd h.1 (by simp)) (Or.inl ⟨by rfl, fun w hSw => by obtain ⟨c0, c1, c2, c3, c4, c5, c6, c7⟩ := cells8 hSw; go_simp⟩) hHeld ?_
  try simp only [Act.put, List.getElem_toArray, List.getElem_cons_succ, List.getElem_cons_zero, List.setIfInBounds_toArray, List.set_cons_zero, List.set_cons_succ]
  refine wpAnyH_ready (rs := [8]) (by kernel_rfl) (by simp) ?_
  refine AllReadyH.cons rfl (fun K' hKK => ?_) AllReadyH.nil
  go_simp
  go_at_call 100
  refine (GC.out _ (Below.refl W.heap.size W).drew).mono ?_
  rintro e w1 ⟨rfl, hm1, hB1⟩
  have hB2 := bel2 (Below.refl W.heap.size W).drew hB1
  have HB2 := Lib.hid hB2
  have HM1 := Lib.hid (show HasPl w1 W.heap.size F from hm1)
  have HL1 := Lib.hid (HL.out.below hB2)
  clear hm1 hB1 hB2
  go_simp
  refine hKK.out _ _ HL1.out.1 (fun hHeld => ?_)
  clear hKK K'
  try simp only [Act.put, List.getElem_toArray, List.getElem_cons_succ, List.getElem_cons_zero, List.setIfInBounds_toArray, List.set_cons_zero, List.set_cons_succ]
  refine wpAnyH_take (i := 9) (v := .agg #[.int .i64 id, .int .i64 fi, .int .i64 te, .int .i64 ht, .int .i64 hv, .int .i64 hc, .slice a l.length c, .map (some W.heap.size)]) rfl (by kernel_rfl) (by kernel_rfl) (by kernel_rfl) (fun _ _ _ h => absurd h.1 (by simp)) (Or.inl ⟨by rfl, fun w hSw => by obtain ⟨c0, c1, c2, c3, c4, c5, c6, c7⟩ := cells8 hSw; go_simp⟩) hHeld ?_
  try simp only [Act.put, List.getElem_toArray, List.getElem_cons_succ, List.getElem_cons_zero, List.setIfInBounds_toArray, List.set_cons_zero, List.set_cons_succ]
  refine wpAnyH_ready (rs := [10]) (by kernel_rfl) (by simp) ?_
  refine AllReadyH.cons rfl (fun K' hKK => ?_) AllReadyH.nil
  go_simp
  have hA := bel_alloc (Below.refl w1.heap.size w1) (.cells #[.int .i64 id, .int .i64 fi, .int .i64 te, .int .i64 ht, .int .i64 hv, .int .i64 hc, .slice a l.length c, .map (some W.heap.size)] 124)
  have hb := World.alloc_heap_new w1 (.cells #[.int .i64 id, .int .i64 fi, .int .i64 te, .int .i64 ht, .int .i64 hv, .int .i64 hc, .slice a l.length c, .map (some W.heap.size)] 124)
  have hLA := HL1.out.below hA
  have HA := Lib.hid hA
  have HBk := Lib.hid hb
  have HLA := Lib.hid hLA
  refine hKK.out _ _ hLA.1 (fun hHeld => ?_)
  clear hKK K' hA hb hLA
  try simp only [Act.put, List.getElem_toArray, List.getElem_cons_succ, List.getElem_cons_zero, List.setIfInBounds_toArray, List.set_cons_zero, List.set_cons_succ]
  refine wpAnyH_take (i := 11) (v := .pointer (some ⟨w1.heap.size, 0, none⟩)) rfl (by kernel_rfl) (by kernel_rfl) (by kernel_rfl) (fun _ _ _ h => absurd h.1 (by simp)) (Or.inl ⟨by rfl, fun w hSw => by obtain ⟨c0, c1, c2, c3, c4, c5, c6, c7⟩ := cells8 hSw; go_simp⟩) hHeld ?_
  try simp only [Act.put, List.getElem_toArray, List.getElem_cons_succ, List.getElem_cons_zero, List.setIfInBounds_toArray, List.set_cons_zero, List.set_cons_succ]
  refine wpAnyH_done (by kernel_rfl) ?_ _
  refine onlyNormal_mk ?_
  gi_wp2
  exact ⟨_, by simp [results, Try.results74, go_sem], _, _, rfl, Nat.le_refl _, HM1.out.lt, ⟨Nat.ne_of_lt HM1.out.lt, a, c, HBk.out, HM1.out.below HA.out, ⟨HL1.out.2.2.1.1, HLA.out.2.2.1.2⟩, HLA.out.2.2.2⟩, bel2 HB2.out HA.out⟩

end Go.Proofs.Ytdncdlbhgaehmaa

/- A log that was made since: what its calls leave. -/
namespace Go.Proofs.Ytdncdlbhgaehmaa
open Go.RowKit Go.Shelf
set_option linter.unusedVariables false
attribute [local go_sem] Oper.semAt_some wide_fn wide_round_fn

/-- Made since w: all that lay in w is as it was. -/
def LgK (w : World) (d m : Nat) (L : LG) (W : World) : Prop := LogS W d m L ∧ Below w.heap.size w W ∧ w.heap.size ≤ d ∧ w.heap.size ≤ m
theorem LgK.below {w W W' : World} {d m : Nat} {L : LG} (h : LgK w d m L W) (hB : Below W.heap.size W W') : LgK w d m L W' := ⟨h.1.below hB, bel2 h.2.1 hB, h.2.2⟩
theorem LgK.alloc {w W : World} {d m : Nat} {L : LG} (h : LgK w d m L W) (o : Obj) : LgK w d m L (W.alloc o) := h.below (bel_alloc (Below.refl _ _) o)
theorem LgK.step {w W W' : World} {d m : Nat} {L L' : LG} (h : LgK w d m L W) (h' : LogS W' d m L') (hF : FrameT (fun k => k = d ∨ k = m) W W') : LgK w d m L' W' :=
  ⟨h', h.2.1.trans (hF.toBelow h.2.1.size (fun k hk => by have := h.2.2; omega)), h.2.2⟩
theorem pdoK_any {w W : World} {d m N : Nat} {L : LG} (h : LgK w d m L W) (hok : okLG N L) (hN : N ≤ 100000) (p : PartC) (pl : List EntryC) (hpe : HasE W p pl) (hpc : pl.length ≤ p.cap) (hpl : pl.length < 100000) (s t : Int) :
    Calls Try.prog 46 #[.pointer (some ⟨d, 0, none⟩), p.val, .agg #[.int .i64 s, .int .i64 t]] W fun e w' => (∃ v, e = .returned v) ∧ LgK w d m (doLG L p pl s t) w' ∧ FrameT (fun k => k = d ∨ k = m) W w' := by
  refine (pdo_any h.1 hok hN p pl hpe hpc hpl s t).mono ?_
  rintro e w' ⟨h1, h2, h3⟩
  exact ⟨h1, h.step h2 h3, h3⟩
theorem pnewK_any {w W : World} (hB : Below w.heap.size w W) (id : Int) : Calls Try.prog 70 #[.int .i64 id] W fun e w' => ∃ d m, e = .returned (.pointer (some ⟨d, 0, none⟩)) ∧ LgK w d m ⟨newP id, []⟩ w' ∧ Below W.heap.size W w' ∧ W.heap.size ≤ m ∧ m < d := by
  refine (pnewS_any id W).mono ?_
  rintro e w' ⟨d, m, rfl, h1, h2, h3, h4⟩
  have := hB.size
  exact ⟨d, m, rfl, ⟨h3, bel2 hB h4, by omega, by omega⟩, h4, h1, h2⟩
theorem pcopyK_any {w W : World} {d m : Nat} {L : LG} (hB : Below w.heap.size w W) (h : LogS W d m L) : Calls Try.prog 74 #[.pointer (some ⟨d, 0, none⟩)] W fun e w' => ∃ d' m', e = .returned (.pointer (some ⟨d', 0, none⟩)) ∧ LgK w d' m' L w' ∧ Below W.heap.size W w' ∧ W.heap.size ≤ m' ∧ m' < d' := by
  refine (pcopyS_any h).mono ?_
  rintro e w' ⟨d', m', rfl, h1, h2, h3, h4⟩
  have := hB.size
  exact ⟨d', m', rfl, ⟨h3, bel2 hB h4, by omega, by omega⟩, h4, h1, h2⟩
theorem spotRow_at {W : World} {a : Option Addr} {xs : List SpotC} (h : RowV W a xs.length 4 (spotCells xs)) (h0 : 0 < xs.length) : ∃ b off, a = some ⟨b, off, none⟩ ∧ b < W.heap.size ∧ ∀ k (hk : k < xs.length), W.cell? ⟨b, off + k * 4, none⟩ = some (.int .i64 xs[k].g) ∧ W.cell? ⟨b, off + k * 4 + 1, none⟩ = some (.int .i64 xs[k].i) ∧ W.cell? ⟨b, off + k * 4 + 2, none⟩ = some (.int .i64 xs[k].s) ∧ W.cell? ⟨b, off + k * 4 + 3, none⟩ = some (.int .i64 xs[k].p) := by
  obtain ⟨b, off, rfl, hb, hc⟩ := h.2.2 h0
  refine ⟨b, off, rfl, hb, fun k hk => ?_⟩
  have key : ∀ i v, i < 4 → (xs[k].cells)[i]? = some v → W.cell? ⟨b, off + (k * 4 + i), none⟩ = some v := fun i v hi hv =>
    RowV.at_ (len := xs.length) (sz := 4) hc (by rw [spotCells, flat_at SpotC.cells 4 SpotC.len xs k i hk hi]; exact hv)
  exact ⟨key 0 _ (by decide) rfl, key 1 _ (by decide) rfl, key 2 _ (by decide) rfl, key 3 _ (by decide) rfl⟩

end Go.Proofs.Ytdncdlbhgaehmaa
