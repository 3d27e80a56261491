/- PlcA, PlcC, PlcK, LgM, LgS, LgD, LgDo, LgI, LgA, LgSp, LgG, LgC, LgE, LgH, LgK: in one text. -/
import Derived.Test.YtdncdlbhgaehmaaPlcDo
import Derived.Test.YtdncdlbhgaehmaaPlcSp
import Derived.Test.YtdncdlbhgaehmaaSprM
import Derived.Test.YtdncdlbhgaehmaaPlc0
import Derived.StillTailTactics
import Derived.Test.YtdncdlbhgaehmaaRec
import Derived.Test.YtdncdlbhgaehmaaPartSame
import Derived.Deep.Cut
import Derived.Test.YtdncdlbhgaehmaaIterK
import Derived.Test.YtdncdlbhgaehmaaRegion
import Derived.Deep.AppendLies
import Derived.Test.YtdncdlbhgaehmaaSprIs
import Derived.Test.YtdncdlbhgaehmaaGrpTrm
/- A log as plain data; a part done to it (package place). -/
namespace Go.Proofs.Ytdncdlbhgaehmaa
open Go.RowKit Go.Shelf
set_option linter.unusedVariables false
attribute [local go_sem] Oper.semAt_some wide_fn wide_round_fn

theorem entT_bdP {l : List EntryC} (h : ∀ e ∈ l, entryB e = true) (i : Int) : 0 ≤ entT l i ∧ entT l i ≤ 1099511627776 := by
  unfold entT
  cases hb : btw l i i with
  | nil => simp
  | cons y r =>
    have hy : y ∈ btw l i i := by rw [hb]; simp
    have h1 := (entryB_bd (h y (List.mem_filter.1 hy).1)).2.1
    simp only [List.head?_cons, Option.map_some, Option.getD_some]
    omega
theorem isB_ris {p : PartC} {pl : List EntryC} (h : isB p pl = true) : Ris pl ∧ ∀ e ∈ pl, entryB e = true := by
  have key : pl = [] ∨ ∃ f, sprB pl f = true := by
    rcases (isB_iff p pl).1 h with ⟨_, h | h | h | h | h | h⟩
    · exact .inr ⟨_, dense_spr (are_dense h.2.2.1)⟩
    · exact .inl h.2.2.1
    · exact .inl h.2.2.2.1
    · exact .inl h.2.2.2.1
    · exact .inl h.2.1
    · have hf := h.2.1
      unfold isFwdB at hf
      simp only [Bool.and_eq_true] at hf
      exact .inr ⟨_, are_spr ⟨by decide, by decide⟩ hf.2.2.2⟩
  rcases key with rfl | ⟨f, h⟩
  · exact ⟨fun j k hj hk => by simp at hk, by simp⟩
  · exact ⟨sprB_ris h, (sprB_iff.1 h).1⟩
theorem cmpG_isSp {g : GM} {p : PartC} (hI : isSp g = true) (hi : wB p.i 1 1099511627776 = true) (ht : wB p.t 1 1099511627776 = true ∨ p.t = 0) : isSp (cmpG g p) = true := by
  unfold cmpG
  split
  · exact hI
  · have h0 := isSp_iff.1 hI
    have hi := wB_bd hi
    obtain ⟨h1, h2, h3⟩ := sprB_iff.1 h0.2.2
    have hr := ris_pw.2 h3
    refine isSp_iff.2 ⟨⟨h0.1.1, ⟨by show 1 ≤ p.i + 1; omega, by show p.i + 1 ≤ _; omega⟩, ?_⟩, h0.2.1, sprB_iff.2 ⟨fun e he => h1 e ((fro_mem hr).1 he).1, fun e he => ((fro_mem hr).1 he).2, h3.sublist (List.drop_sublist _ _)⟩⟩
    show 0 ≤ (if p.t = 0 then entT g.l p.i else p.t) ∧ (if p.t = 0 then entT g.l p.i else p.t) ≤ 1099511627776
    split
    · exact entT_bdP h1 p.i
    · rcases ht with ht | ht
      · have := wB_bd ht; omega
      · omega
theorem snpG_isSp {g : GM} {p : PartC} (hI : isSp g = true) (hi : wB p.i 1 1099511627776 = true) (ht : wB p.t 1 1099511627776 = true) : isSp (snpG g p) = true := by
  unfold snpG
  split
  · exact hI
  · have h0 := isSp_iff.1 hI
    have hi := wB_bd hi
    have ht := wB_bd ht
    exact isSp_iff.2 ⟨⟨h0.1.1, ⟨by show 1 ≤ p.i + 1; omega, by show p.i + 1 ≤ _; omega⟩, ⟨by show 0 ≤ p.t; omega, by show p.t ≤ _; omega⟩⟩, h0.2.1, rfl⟩
theorem hrdG_isSp {g : GM} {p : PartC} (hI : isSp g = true) (hh : hardB p.ht p.hv p.hc = true) : isSp (hrdG g p) = true := by
  have h0 := isSp_iff.1 hI
  exact isSp_iff.2 ⟨h0.1, hh, h0.2.2⟩
theorem doSp_isSp {g : GM} {p : PartC} {pl : List EntryC} (hI : isSp g = true) : isSp (doSp g p pl) = true := by
  by_cases hok : isSp g = true ∧ isB p pl = true ∧ p.g = g.id
  · obtain ⟨-, hB, hg⟩ := hok
    obtain ⟨hr, he⟩ := isB_ris hB
    obtain ⟨-, h⟩ := (isB_iff p pl).1 hB
    have h0 := isSp_iff.1 hI
    rcases h with h | h | h | h | h | h
    · rw [doSp_1 hI hB hg h.1]
      refine addG_isSp ?_ he hr
      obtain ⟨h1, h2, h3⟩ := sprB_iff.1 h0.2.2
      exact isSp_iff.2 ⟨h0.1, h0.2.1, sprB_iff.2 ⟨fun e he => h1 e (List.mem_of_mem_take he), fun e he => h2 e (List.mem_of_mem_take he), h3.sublist (List.take_sublist _ _)⟩⟩
    · rw [doSp_2 hI hB hg h.1]; exact hrdG_isSp hI h.2.1
    · rw [doSp_3 hI hB hg h.1]; exact cmpG_isSp hI h.2.1 h.2.2.1
    · rw [doSp_4 hI hB hg h.1]; exact snpG_isSp hI h.2.1 h.2.2.1
    · rw [doSp_5 hI hB hg h.1]; exact hI
    · rw [doSp_6 hI hB hg h.1]
      have hf := h.2.1
      unfold isFwdB at hf
      simp only [Bool.and_eq_true, Bool.or_eq_true, Bool.not_eq_true'] at hf
      have hc : p.m = true → isSp (cmpG g p) = true := fun hm => by
        rcases hf.2.1 with h1 | h1
        · rw [hm] at h1; cases h1
        · exact cmpG_isSp hI h1.1 (.inl h1.2)
      have hh : p.h = true → hardB p.ht p.hv p.hc = true := fun hm => by
        rcases hf.2.2.1 with h1 | h1
        · rw [hm] at h1; cases h1
        · exact h1
      refine addG_isSp ?_ he hr
      split
      · rename_i h1
        refine hrdG_isSp ?_ (hh h1)
        split
        · rename_i h2; exact hc h2
        · exact hI
      · split
        · rename_i h2; exact hc h2
        · exact hI
  · rw [show doSp g p pl = g from if_neg hok]; exact hI
theorem cmpG_len (g : GM) (p : PartC) : (cmpG g p).l.length ≤ g.l.length ∧ (cmpG g p).id = g.id := by
  unfold cmpG
  split
  · exact ⟨Nat.le_refl _, rfl⟩
  · exact ⟨by rw [List.length_drop]; omega, rfl⟩
theorem snpG_len (g : GM) (p : PartC) : (snpG g p).l.length ≤ g.l.length ∧ (snpG g p).id = g.id := by
  unfold snpG
  split
  · exact ⟨Nat.le_refl _, rfl⟩
  · exact ⟨by simp, rfl⟩
theorem addG_len (g : GM) (M : List EntryC) : (addG g M).l.length ≤ g.l.length + M.length ∧ (addG g M).id = g.id := by
  refine ⟨?_, rfl⟩
  have := mrg_len g.l (M.drop (fnd M g.fi))
  rw [List.length_drop] at this
  show (mrg g.l (M.drop (fnd M g.fi))).length ≤ _
  omega
theorem doSp_len (g : GM) (p : PartC) (pl : List EntryC) : (doSp g p pl).l.length ≤ g.l.length + pl.length ∧ (doSp g p pl).id = g.id := by
  unfold doSp
  have h0 : g.l.length ≤ g.l.length + pl.length ∧ g.id = g.id := ⟨by omega, rfl⟩
  have hc := cmpG_len g p
  split
  · split
    · have := addG_len { g with l := g.l.take (fnd g.l (headI pl)) } pl
      have h2 : (g.l.take (fnd g.l (headI pl))).length ≤ g.l.length := by rw [List.length_take]; omega
      exact ⟨by have := this.1; simp only at this; omega, this.2⟩
    · split
      · exact h0
      · split
        · exact ⟨by omega, hc.2⟩
        · split
          · have := snpG_len g p; exact ⟨by omega, this.2⟩
          · split
            · have key : ∀ D : GM, D.l.length ≤ g.l.length ∧ D.id = g.id → (addG D pl).l.length ≤ g.l.length + pl.length ∧ (addG D pl).id = g.id := fun D hD => by have := addG_len D pl; exact ⟨by omega, this.2.trans hD.2⟩
              apply key
              split
              · unfold hrdG
                split
                · exact hc
                · exact ⟨Nat.le_refl _, rfl⟩
              · split
                · exact hc
                · exact ⟨Nat.le_refl _, rfl⟩
            · exact h0
  · exact h0

/-- A log: its group, where its things lie. -/
structure LG where
  g : GM
  F : List LV
/-- What a part at a place makes of a log. -/
def doLG (L : LG) (p : PartC) (pl : List EntryC) (s t : Int) : LG :=
  if isB p pl = true ∧ p.g = L.g.id ∧ p.k ≠ 5 then ⟨doSp L.g p pl, putAll s t (delAll L.F (gonL L.g.l (doSp L.g p pl).l)) (brgL (doSp L.g p pl) p pl L.g.fi)⟩ else L
def okLG (N : Nat) (L : LG) : Prop := isSp L.g = true ∧ L.g.l.length ≤ N ∧ L.F.length ≤ N
theorem doLG_ok {N : Nat} {L : LG} (h : okLG N L) (p : PartC) (pl : List EntryC) (s t : Int) : okLG (N + (pl.length + 2)) (doLG L p pl s t) := by
  unfold doLG
  split
  · refine ⟨doSp_isSp h.1, ?_, ?_⟩
    · have := (doSp_len L.g p pl).1
      have := h.2.1
      show (doSp L.g p pl).l.length ≤ _
      omega
    · have h1 := delAll_len (gonL L.g.l (doSp L.g p pl).l) L.F
      have h2 := putAll_len s t (brgL (doSp L.g p pl) p pl L.g.fi) (delAll L.F (gonL L.g.l (doSp L.g p pl).l))
      have h3 := brgL_len (doSp L.g p pl) p pl L.g.fi
      have := h.2.2
      show (putAll s t _ _).length ≤ _
      omega
  · exact ⟨h.1, by have := h.2.1; omega, by have := h.2.2; omega⟩
theorem doLG_id (L : LG) (p : PartC) (pl : List EntryC) (s t : Int) : (doLG L p pl s t).g.id = L.g.id := by
  unfold doLG
  split
  · exact (doSp_len L.g p pl).2
  · rfl
/-- A pointer d to a log whose map is m. -/
def LogS (W : World) (d m : Nat) (L : LG) : Prop := m ≠ d ∧ ∃ a c, LogAt W d m L.g a c L.F
theorem LogS.below {W W' : World} {d m : Nat} {L : LG} (h : LogS W d m L) (hB : Below W.heap.size W W') : LogS W' d m L := by
  obtain ⟨h0, a, c, h⟩ := h
  exact ⟨h0, a, c, h.below hB⟩
theorem LogS.lt {W : World} {d m : Nat} {L : LG} (h : LogS W d m L) : d < W.heap.size ∧ m < W.heap.size := by
  obtain ⟨_, a, c, h⟩ := h
  exact ⟨heap_lt h.1, h.2.1.lt⟩
theorem LogS.frame {T : Nat → Prop} {W W' : World} {d m : Nat} {L : LG} (h : LogS W d m L) (hF : FrameT T W W') (hd : ¬ T d) (hm : ¬ T m) (hT : ∀ (a : Option Addr) (l : List EntryC), RowV W a l.length 3 (entryCells l) → ∀ k, inBlkE a l.length k → ¬ T k) : LogS W' d m L := by
  obtain ⟨h0, a, c, h⟩ := h
  exact ⟨h0, a, c, h.frame hF hd hm (hT a L.g.l h.2.2.1.2)⟩
/-- Another log turns. -/
theorem LogS.other {W W' : World} {d m d2 m2 : Nat} {L L2 : LG} (h : LogS W d m L) (h2 : LogS W d2 m2 L2) (hF : FrameT (fun k => k = d2 ∨ k = m2) W W') (hd : d ≠ d2 ∧ d ≠ m2) (hm : m ≠ d2 ∧ m ≠ m2) : LogS W' d m L := by
  obtain ⟨_, a2, c2, h2⟩ := h2
  refine h.frame hF (by omega) (by omega) (fun a l hr k hk => ?_)
  have h3 := rowV_not_d h2.1 hr k hk
  have h4 := rowV_not_m h2.2.1 hr k hk
  omega
/-- (*Log).Do at whatever part. -/
theorem pdo_any {W : World} {d m N : Nat} {L : LG} (h : LogS W d m L) (hok : okLG N L) (hN : N ≤ 100000) (p : PartC) (pl : List EntryC) (hpe : HasE W p pl) (hpc : pl.length ≤ p.cap) (hpl : pl.length < 100000) (s t : Int) :
    Calls Try.prog 46 #[.pointer (some ⟨d, 0, none⟩), p.val, .agg #[.int .i64 s, .int .i64 t]] W fun e w' => (∃ v, e = .returned v) ∧ LogS w' d m (doLG L p pl s t) ∧ FrameT (fun k => k = d ∨ k = m) W w' := by
  obtain ⟨h0, a, c, h⟩ := h
  obtain ⟨⟨id, fi, te, ht, hv, hc, l⟩, F⟩ := L
  obtain ⟨pg, pk, pa, plen, pcap, pht, phv, phc, pi, pt, pm, ph⟩ := p
  by_cases hq : isB ⟨pg, pk, pa, plen, pcap, pht, phv, phc, pi, pt, pm, ph⟩ pl = true ∧ pg = id ∧ pk ≠ 5
  · have h2 := doSp_isSp (g := ⟨id, fi, te, ht, hv, hc, l⟩) (p := ⟨pg, pk, pa, plen, pcap, pht, phv, phc, pi, pt, pm, ph⟩) (pl := pl) hok.1
    have h3 := (doSp_len ⟨id, fi, te, ht, hv, hc, l⟩ ⟨pg, pk, pa, plen, pcap, pht, phv, phc, pi, pt, pm, ph⟩ pl).1
    have h4 : l.length ≤ N := hok.2.1
    have h5 : F.length ≤ N := hok.2.2
    dsimp only at h3
    refine (pdo_yes id fi te ht hv hc l h pg pk pa plen pcap pht phv phc pi pt pm ph pl s t hpe hq hpc h0 (by omega) hok.1 h2 (by omega) (show F.length < 10000000 by omega)).mono ?_
    rintro e w' ⟨h6, a', c', h7, h8⟩
    refine ⟨h6, ⟨h0, a', c', ?_⟩, h8⟩
    rw [show doLG ⟨⟨id, fi, te, ht, hv, hc, l⟩, F⟩ ⟨pg, pk, pa, plen, pcap, pht, phv, phc, pi, pt, pm, ph⟩ pl s t = ⟨doSp ⟨id, fi, te, ht, hv, hc, l⟩ ⟨pg, pk, pa, plen, pcap, pht, phv, phc, pi, pt, pm, ph⟩ pl, _⟩ from if_pos hq]
    exact h7
  · refine (pdo_no id fi te ht hv hc l h pg pk pa plen pcap pht phv phc pi pt pm ph pl s t hpe (by cases hb : isB ⟨pg, pk, pa, plen, pcap, pht, phv, phc, pi, pt, pm, ph⟩ pl; exact .inl rfl; exact .inr (by by_cases h1 : pg = id; exact .inr (Decidable.byContradiction fun h9 => hq ⟨hb, h1, h9⟩); exact .inl h1))).mono ?_
    rintro e w' ⟨h6, hB⟩
    rw [show doLG ⟨⟨id, fi, te, ht, hv, hc, l⟩, F⟩ ⟨pg, pk, pa, plen, pcap, pht, phv, phc, pi, pt, pm, ph⟩ pl s t = ⟨⟨id, fi, te, ht, hv, hc, l⟩, F⟩ from if_neg hq]
    exact ⟨h6, ⟨h0, a, c, h.below hB⟩, FrameT.below hB⟩
/-- New. -/
theorem pnewS_any (id : Int) (W : World) : Calls Try.prog 70 #[.int .i64 id] W fun e w' => ∃ d m, e = .returned (.pointer (some ⟨d, 0, none⟩)) ∧ W.heap.size ≤ m ∧ m < d ∧ LogS w' d m ⟨newP id, []⟩ ∧ Below W.heap.size W w' := by
  refine (pnew_any id W).mono ?_
  rintro e w' ⟨d, m, rfl, h1, h2, h3, h4⟩
  exact ⟨d, m, rfl, h1, h2, ⟨by omega, none, 0, h3⟩, h4⟩
theorem newP_ok {id : Int} (h : 0 ≤ id ∧ id ≤ 999) : okLG 0 ⟨newP id, []⟩ := ⟨spr_new h ⟨by decide, by decide⟩ ⟨by decide, by decide⟩, Nat.le_refl _, Nat.le_refl _⟩
/-- The group of a log. -/
theorem pgroupS_any {W : World} {d m : Nat} {L : LG} (h : LogS W d m L) : Calls Try.prog 52 #[.pointer (some ⟨d, 0, none⟩)] W fun e w' => ∃ va vc, e = .returned (L.g.val va vc) ∧ HasG w' va L.g ∧ L.g.l.length ≤ vc ∧ Below W.heap.size W w' := by
  obtain ⟨_, a, c, h⟩ := h
  exact pgroup_any h.g

end Go.Proofs.Ytdncdlbhgaehmaa

/- Find, Copy, Spots of a log (package place). -/
namespace Go.Proofs.Ytdncdlbhgaehmaa
open Go.RowKit Go.Shelf
set_option linter.unusedVariables false
set_option linter.unusedSimpArgs false
attribute [local go_sem] Oper.semAt_some wide_fn wide_round_fn
attribute [local irreducible] wpQuietIn

/-- What Find tells. -/
def findP (L : LG) (i : Int) : Int × Int := if hasB L.g.l i = true then (plcS L.F i, plcT L.F i) else (0, 0)
theorem find_boxP (W : World) : (W.alloc (.cells #[.int .i64 0, .int .i64 0] 34)).heap[W.heap.size]? = some (.cells #[.int .i64 0, .int .i64 0] 34 (0, 0)) := World.alloc_heap_new W _
theorem set2_block {W : World} {b : Nat} {T : TypeId} {z0 z1 : Value} (h : W.heap[b]? = some (.cells #[z0, z1] T (0, 0))) (v0 v1 : Value) : ((W.setCell ⟨b, 0, none⟩ v0).setCell ⟨b, 1, none⟩ v1).heap[b]? = some (.cells #[v0, v1] T (0, 0)) := by
  have h0 := Go.Joins.block_setCell h v0 (i := 0)
  have h1 := Go.Joins.block_setCell h0 v1 (i := 1)
  simpa only [List.setIfInBounds_toArray, List.set_cons_succ, List.set_cons_zero] using h1
theorem wf_entP {g : GM} (hI : isSp g = true) : ∀ e ∈ g.l, (Lit.int .i64 e.i).wf = true := fun e he => by
  have := (entryB_bd ((sprB_iff.1 (isSp_iff.1 hI).2.2).1 e he)).1
  exact wfP (by omega)
theorem pspotsS_any {W : World} {d m : Nat} {L : LG} (h : LogS W d m L) (hI : isSp L.g = true) :
    Calls Try.prog 54 #[.pointer (some ⟨d, 0, none⟩)] W fun e w' => ∃ va vc, e = .returned (.slice va (spotsL L.g L.F).length vc) ∧ RowV w' va (spotsL L.g L.F).length 4 (spotCells (spotsL L.g L.F)) ∧ (spotsL L.g L.F).length ≤ vc ∧ Below W.heap.size W w' := by
  obtain ⟨_, a, c, h⟩ := h
  exact pspots_any h (wf_entP hI)
theorem pclone_any {W : World} {m : Nat} {F : List LV} (h : HasPl W m F) : Calls Try.prog 100 #[.map (some m)] W fun e w' => e = .returned (.map (some W.heap.size)) ∧ HasPl w' W.heap.size F ∧ Below W.heap.size W w' := by
  have h0 : Calls Try.prog 100 #[.map (some m)] W fun e w' => e = .returned (.map (some W.heap.size)) ∧ w'.ownsMap Try.prog 3 plcElem W.heap.size F.length (pmap F) ∧ w'.ownsMap Try.prog 3 plcElem m F.length (pmap F) ∧ Below W.heap.size W w' := AnyW.maps_Clone_owns Try.cloneP 3 plcElem m F.length (pmap F) W h
  refine h0.mono ?_
  rintro e w' ⟨rfl, h1, _, hB⟩
  exact ⟨rfl, h1, hB⟩
set_option maxRecDepth 100000 in
set_option maxHeartbeats 2000000 in
theorem pcopyS_any {W : World} {d m : Nat} {L : LG} (h : LogS W d m L) :
    Calls Try.prog 74 #[.pointer (some ⟨d, 0, none⟩)] W fun e w' => ∃ d' m', e = .returned (.pointer (some ⟨d', 0, none⟩)) ∧ W.heap.size ≤ m' ∧ m' < d' ∧ LogS w' d' m' L ∧ Below W.heap.size W w' := by
  have hmx : Try.prog.follows .mixedOrders = true := by kernel_rfl
  obtain ⟨h0, a, c, h⟩ := h
  obtain ⟨⟨id, fi, te, ht, hv, hc, l⟩, F⟩ := L
  have HL := Lib.hid h
  have GC := Lib.hid (fun W' (hB : Below W.heap.size W W') => pclone_any (h.below hB).2.1)
  clear h
  refine (callsIn_wide (n := 9)).1 ?_
  refine callsIn_of_wp_marks Try.func74 rfl trivial ?_ rfl
  simp only [Try.ntmps74, List.size_toArray, List.length_cons, List.length_nil, Nat.reduceAdd, Nat.reduceSub, Array.replicate_succ, Array.replicate_zero, List.push_toArray, List.append_toArray, List.nil_append, List.cons_append]
  gi_wp2
  refine wpIn_of_heldP (S := fun W' => W'.heap[d]? = some (.cells #[.int .i64 id, .int .i64 fi, .int .i64 te, .int .i64 ht, .int .i64 hv, .int .i64 hc, .slice a l.length c, .map (some m)] 124 (0, 0))) hmx (by kernel_rfl) ⟨none, rfl⟩ HL.out.1 (fun hHeld => ?_)
  refine wpAnyH_take (i := 0) (v := .pointer (some ⟨d, 0, none⟩)) rfl (by kernel_rfl) (by kernel_rfl) (by kernel_rfl) (fun _ _ _ h => absurd h.1 (by simp)) (Or.inl ⟨by rfl, fun w hSw => by obtain ⟨c0, c1, c2, c3, c4, c5, c6, c7⟩ := cells8 hSw; go_simp⟩) hHeld ?_
  try simp only [Act.put, List.getElem_toArray, List.getElem_cons_succ, List.getElem_cons_zero, List.setIfInBounds_toArray, List.set_cons_zero, List.set_cons_succ]
  refine wpAnyH_take (i := 1) (v := .pointer (some ⟨d, 0, none⟩)) rfl (by kernel_rfl) (by kernel_rfl) (by kernel_rfl) (fun _ _ _ h => absurd h.1 (by simp)) (Or.inl ⟨by rfl, fun w hSw => by obtain ⟨c0, c1, c2, c3, c4, c5, c6, c7⟩ := cells8 hSw; go_simp⟩) hHeld ?_
  try simp only [Act.put, List.getElem_toArray, List.getElem_cons_succ, List.getElem_cons_zero, List.setIfInBounds_toArray, List.set_cons_zero, List.set_cons_succ]
  refine wpAnyH_take (i := 2) (v := .pointer (some ⟨d, 0, none⟩)) rfl (by kernel_rfl) (by kernel_rfl) (by kernel_rfl) (fun _ _ _ h => absurd h.1 (by simp)) (Or.inl ⟨by rfl, fun w hSw => by obtain ⟨c0, c1, c2, c3, c4, c5, c6, c7⟩ := cells8 hSw; go_simp⟩) hHeld ?_
  try simp only [Act.put, List.getElem_toArray, List.getElem_cons_succ, List.getElem_cons_zero, List.setIfInBounds_toArray, List.set_cons_zero, List.set_cons_succ]
  refine wpAnyH_take (i := 3) (v := .agg #[.int .i64 id, .int .i64 fi, .int .i64 te, .int .i64 ht, .int .i64 hv, .int .i64 hc, .slice a l.length c]) rfl (by kernel_rfl) (by kernel_rfl) (by kernel_rfl) (fun _ _ _ h => absurd h.1 (by simp)) (Or.inl ⟨by rfl, fun w hSw => by obtain ⟨c0, c1, c2, c3, c4, c5, c6, c7⟩ := cells8 hSw; go_simp⟩) hHeld ?_
  try simp only [Act.put, List.getElem_toArray, List.getElem_cons_succ, List.getElem_cons_zero, List.setIfInBounds_toArray, List.set_cons_zero, List.set_cons_succ]
  refine wpAnyH_take (i := 4) (v := .pointer (some ⟨d, 0, none⟩)) rfl (by kernel_rfl) (by kernel_rfl) (by kernel_rfl) (fun _ _ _ h => absurd h.1 (by simp)) (Or.inl ⟨by rfl, fun w hSw => by obtain ⟨c0, c1, c2, c3, c4, c5, c6, c7⟩ := cells8 hSw; go_simp⟩) hHeld ?_
  try simp only [Act.put, List.getElem_toArray, List.getElem_cons_succ, List.getElem_cons_zero, List.setIfInBounds_toArray, List.set_cons_zero, List.set_cons_succ]
  refine wpAnyH_take (i := 5) (v := .pointer (some ⟨d, 0, none⟩)) rfl (by kernel_rfl) (by kernel_rfl) (by kernel_rfl) (fun _ _ _ h => absurd h.1 (by simp)) (Or.inl ⟨by rfl, fun w hSw => by obtain ⟨c0, c1, c2, c3, c4, c5, c6, c7⟩ := cells8 hSw; go_simp⟩) hHeld ?_
  try simp only [Act.put, List.getElem_toArray, List.getElem_cons_succ, List.getElem_cons_zero, List.setIfInBounds_toArray, List.set_cons_zero, List.set_cons_succ]
  refine wpAnyH_take (i := 6) (v := .pointer (some ⟨d, 7, none⟩)) rfl (by kernel_rfl) (by kernel_rfl) (by kernel_rfl) (fun _ _ _ h => absurd h.1 (by simp)) (Or.inl ⟨by rfl, fun w hSw => by obtain ⟨c0, c1, c2, c3, c4, c5, c6, c7⟩ := cells8 hSw; go_simp⟩) hHeld ?_
  try simp only [Act.put, List.getElem_toArray, List.getElem_cons_succ, List.getElem_cons_zero, List.setIfInBounds_toArray, List.set_cons_zero, List.set_cons_succ]
  refine wpAnyH_take (i := 7) (v := .map (some m)) rfl (by kernel_rfl) (by kernel_rfl) (by kernel_rfl) (fun _ _ _ h => absurd h.1 (by simp)) (Or.inl ⟨by rfl, fun w hSw => by obtain ⟨c0, c1, c2, c3, c4, c5, c6, c7⟩ := cells8 hSw; go_simp⟩) hHeld ?_
  try simp only [Act.put, List.getElem_toArray, List.getElem_cons_succ, List.getElem_cons_zero, List.setIfInBounds_toArray, List.set_cons_zero, List.set_cons_succ]
  refine wpAnyH_ready (rs := [8]) (by kernel_rfl) (by simp) ?_
  refine AllReadyH.cons rfl (fun K' hKK => ?_) AllReadyH.nil
  go_simp
  go_at_call 100
  refine (GC.out _ (Below.refl W.heap.size W).drew).mono ?_
  rintro e w1 ⟨rfl, hm1, hB1⟩
  have hB2 := bel2 (Below.refl W.heap.size W).drew hB1
  have HB2 := Lib.hid hB2
  have HM1 := Lib.hid (show HasPl w1 W.heap.size F from hm1)
  have HL1 := Lib.hid (HL.out.below hB2)
  clear hm1 hB1 hB2
  go_simp
  refine hKK.out _ _ HL1.out.1 (fun hHeld => ?_)
  clear hKK K'
  try simp only [Act.put, List.getElem_toArray, List.getElem_cons_succ, List.getElem_cons_zero, List.setIfInBounds_toArray, List.set_cons_zero, List.set_cons_succ]
  refine wpAnyH_take (i := 9) (v := .agg #[.int .i64 id, .int .i64 fi, .int .i64 te, .int .i64 ht, .int .i64 hv, .int .i64 hc, .slice a l.length c, .map (some W.heap.size)]) rfl (by kernel_rfl) (by kernel_rfl) (by kernel_rfl) (fun _ _ _ h => absurd h.1 (by simp)) (Or.inl ⟨by rfl, fun w hSw => by obtain ⟨c0, c1, c2, c3, c4, c5, c6, c7⟩ := cells8 hSw; go_simp⟩) hHeld ?_
  try simp only [Act.put, List.getElem_toArray, List.getElem_cons_succ, List.getElem_cons_zero, List.setIfInBounds_toArray, List.set_cons_zero, List.set_cons_succ]
  refine wpAnyH_ready (rs := [10]) (by kernel_rfl) (by simp) ?_
  refine AllReadyH.cons rfl (fun K' hKK => ?_) AllReadyH.nil
  go_simp
  have hA := bel_alloc (Below.refl w1.heap.size w1) (.cells #[.int .i64 id, .int .i64 fi, .int .i64 te, .int .i64 ht, .int .i64 hv, .int .i64 hc, .slice a l.length c, .map (some W.heap.size)] 124)
  have hb := World.alloc_heap_new w1 (.cells #[.int .i64 id, .int .i64 fi, .int .i64 te, .int .i64 ht, .int .i64 hv, .int .i64 hc, .slice a l.length c, .map (some W.heap.size)] 124)
  have hLA := HL1.out.below hA
  have HA := Lib.hid hA
  have HBk := Lib.hid hb
  have HLA := Lib.hid hLA
  refine hKK.out _ _ hLA.1 (fun hHeld => ?_)
  clear hKK K' hA hb hLA
  try simp only [Act.put, List.getElem_toArray, List.getElem_cons_succ, List.getElem_cons_zero, List.setIfInBounds_toArray, List.set_cons_zero, List.set_cons_succ]
  refine wpAnyH_take (i := 11) (v := .pointer (some ⟨w1.heap.size, 0, none⟩)) rfl (by kernel_rfl) (by kernel_rfl) (by kernel_rfl) (fun _ _ _ h => absurd h.1 (by simp)) (Or.inl ⟨by rfl, fun w hSw => by obtain ⟨c0, c1, c2, c3, c4, c5, c6, c7⟩ := cells8 hSw; go_simp⟩) hHeld ?_
  try simp only [Act.put, List.getElem_toArray, List.getElem_cons_succ, List.getElem_cons_zero, List.setIfInBounds_toArray, List.set_cons_zero, List.set_cons_succ]
  refine wpAnyH_done (by kernel_rfl) ?_ _
  refine onlyNormal_mk ?_
  gi_wp2
  exact ⟨_, by simp [results, Try.results74, go_sem], _, _, rfl, Nat.le_refl _, HM1.out.lt, ⟨Nat.ne_of_lt HM1.out.lt, a, c, HBk.out, HM1.out.below HA.out, ⟨HL1.out.2.2.1.1, HLA.out.2.2.1.2⟩, HLA.out.2.2.2⟩, bel2 HB2.out HA.out⟩

end Go.Proofs.Ytdncdlbhgaehmaa

/- A log that was made since: what its calls leave. -/
namespace Go.Proofs.Ytdncdlbhgaehmaa
open Go.RowKit Go.Shelf
set_option linter.unusedVariables false
attribute [local go_sem] Oper.semAt_some wide_fn wide_round_fn

/-- Made since w: all that lay in w is as it was. -/
def LgK (w : World) (d m : Nat) (L : LG) (W : World) : Prop := LogS W d m L ∧ Below w.heap.size w W ∧ w.heap.size ≤ d ∧ w.heap.size ≤ m
theorem LgK.below {w W W' : World} {d m : Nat} {L : LG} (h : LgK w d m L W) (hB : Below W.heap.size W W') : LgK w d m L W' := ⟨h.1.below hB, bel2 h.2.1 hB, h.2.2⟩
theorem LgK.alloc {w W : World} {d m : Nat} {L : LG} (h : LgK w d m L W) (o : Obj) : LgK w d m L (W.alloc o) := h.below (bel_alloc (Below.refl _ _) o)
theorem LgK.step {w W W' : World} {d m : Nat} {L L' : LG} (h : LgK w d m L W) (h' : LogS W' d m L') (hF : FrameT (fun k => k = d ∨ k = m) W W') : LgK w d m L' W' :=
  ⟨h', h.2.1.trans (hF.toBelow h.2.1.size (fun k hk => by have := h.2.2; omega)), h.2.2⟩
theorem pdoK_any {w W : World} {d m N : Nat} {L : LG} (h : LgK w d m L W) (hok : okLG N L) (hN : N ≤ 100000) (p : PartC) (pl : List EntryC) (hpe : HasE W p pl) (hpc : pl.length ≤ p.cap) (hpl : pl.length < 100000) (s t : Int) :
    Calls Try.prog 46 #[.pointer (some ⟨d, 0, none⟩), p.val, .agg #[.int .i64 s, .int .i64 t]] W fun e w' => (∃ v, e = .returned v) ∧ LgK w d m (doLG L p pl s t) w' ∧ FrameT (fun k => k = d ∨ k = m) W w' := by
  refine (pdo_any h.1 hok hN p pl hpe hpc hpl s t).mono ?_
  rintro e w' ⟨h1, h2, h3⟩
  exact ⟨h1, h.step h2 h3, h3⟩
theorem pnewK_any {w W : World} (hB : Below w.heap.size w W) (id : Int) : Calls Try.prog 70 #[.int .i64 id] W fun e w' => ∃ d m, e = .returned (.pointer (some ⟨d, 0, none⟩)) ∧ LgK w d m ⟨newP id, []⟩ w' ∧ Below W.heap.size W w' ∧ W.heap.size ≤ m ∧ m < d := by
  refine (pnewS_any id W).mono ?_
  rintro e w' ⟨d, m, rfl, h1, h2, h3, h4⟩
  have := hB.size
  exact ⟨d, m, rfl, ⟨h3, bel2 hB h4, by omega, by omega⟩, h4, h1, h2⟩
theorem pcopyK_any {w W : World} {d m : Nat} {L : LG} (hB : Below w.heap.size w W) (h : LogS W d m L) : Calls Try.prog 74 #[.pointer (some ⟨d, 0, none⟩)] W fun e w' => ∃ d' m', e = .returned (.pointer (some ⟨d', 0, none⟩)) ∧ LgK w d' m' L w' ∧ Below W.heap.size W w' ∧ W.heap.size ≤ m' ∧ m' < d' := by
  refine (pcopyS_any h).mono ?_
  rintro e w' ⟨d', m', rfl, h1, h2, h3, h4⟩
  have := hB.size
  exact ⟨d', m', rfl, ⟨h3, bel2 hB h4, by omega, by omega⟩, h4, h1, h2⟩
theorem spotRow_at {W : World} {a : Option Addr} {xs : List SpotC} (h : RowV W a xs.length 4 (spotCells xs)) (h0 : 0 < xs.length) : ∃ b off, a = some ⟨b, off, none⟩ ∧ b < W.heap.size ∧ ∀ k (hk : k < xs.length), W.cell? ⟨b, off + k * 4, none⟩ = some (.int .i64 xs[k].g) ∧ W.cell? ⟨b, off + k * 4 + 1, none⟩ = some (.int .i64 xs[k].i) ∧ W.cell? ⟨b, off + k * 4 + 2, none⟩ = some (.int .i64 xs[k].s) ∧ W.cell? ⟨b, off + k * 4 + 3, none⟩ = some (.int .i64 xs[k].p) := by
  obtain ⟨b, off, rfl, hb, hc⟩ := h.2.2 h0
  refine ⟨b, off, rfl, hb, fun k hk => ?_⟩
  have key : ∀ i v, i < 4 → (xs[k].cells)[i]? = some v → W.cell? ⟨b, off + (k * 4 + i), none⟩ = some v := fun i v hi hv =>
    RowV.at_ (len := xs.length) (sz := 4) hc (by rw [spotCells, flat_at SpotC.cells 4 SpotC.len xs k i hk hi]; exact hv)
  exact ⟨key 0 _ (by decide) rfl, key 1 _ (by decide) rfl, key 2 _ (by decide) rfl, key 3 _ (by decide) rfl⟩

end Go.Proofs.Ytdncdlbhgaehmaa

/- A map of pointers to logs, a ledger in memory (package ledger). -/
namespace Go.Proofs.Ytdncdlbhgaehmaa
open Go.RowKit Go.Shelf
set_option linter.unusedVariables false
attribute [local go_sem] Oper.semAt_some wide_fn wide_round_fn

/-- A log under a number: where its pointer and its map lie. -/
structure LE where
  d : Nat
  m : Nat
  L : LG
abbrev LG.n (L : LG) : Int := L.g.id
abbrev LE.k (x : LE) : Int := x.L.g.id
abbrev LE.val (x : LE) : Value := .pointer (some ⟨x.d, 0, none⟩)
def lent (x : LE) : Lit × DataW Value := (.int .i64 x.k, .held x.val)
def lmap (F : List LE) : DataW Value := .map (F.map lent)
theorem lmap_at (F : List LE) (s : Int) (z : DataW Value) : (lmap F).atKey (.int .i64 s) z = match getZ LE.k F s with | some x => .held x.val | none => z := by
  unfold lmap DataW.atKey getZ
  dsimp only
  rw [List.find?_map]
  rw [show ((fun p : Lit × DataW Value => p.1.sameKey (.int .i64 s)) ∘ lent) = fun x : LE => decide (x.k = s) from funext fun x => same_idx x.k s]
  cases F.find? (fun x : LE => decide (x.k = s)) <;> rfl
theorem lmap_has (F : List LE) (s : Int) : Maps.has (lmap F) (.int .i64 s) = (getZ LE.k F s).isSome := by
  unfold lmap getZ
  rw [Maps.has_eq, List.any_map, List.isSome_find?]
  congr 1
  funext x
  exact same_idx x.k s
theorem lmap_size (F : List LE) : Maps.size (lmap F) = F.length := by unfold lmap; rw [Maps.size_eq, List.length_map]
theorem lins_map (x : LE) : ∀ F : List LE, DataW.insert (lent x) (F.map lent) = (insZ LE.k x F).map lent
  | [] => rfl
  | y :: r => by
    simp only [List.map_cons, DataW.insert, insZ]
    show (if decide (x.k < y.k) = true then _ else _) = _
    by_cases h : x.k < y.k
    · rw [if_pos (decide_eq_true h), if_pos h]; rfl
    · rw [if_neg (by simpa using h), if_neg h, lins_map x r]; rfl
theorem lmap_del (F : List LE) (s : Int) : (lmap F).del (.int .i64 s) = lmap (delZ LE.k F s) := by
  unfold lmap DataW.del delZ
  dsimp only
  rw [List.filter_map]
  congr 2
  apply List.filter_congr
  intro x _
  show (!(Lit.int .i64 x.k).sameKey _) = _
  rw [same_idx]
theorem lmap_put (F : List LE) (x : LE) : (lmap F).put (.int .i64 x.k) (.held x.val) = lmap (putZ LE.k x F) := by
  have h := lmap_del F x.k
  unfold lmap DataW.del at h
  unfold lmap DataW.put
  dsimp only at h ⊢
  injection h with h
  rw [h]
  unfold putZ
  rw [← lins_map]; rfl
def HasLm (W : World) (m : Nat) (F : List LE) : Prop := W.ownsMap Try.prog 3 plcElem m F.length (lmap F)
theorem HasLm.frame {T : Nat → Prop} {W W' : World} {m : Nat} {F : List LE} (h : HasLm W m F) (hF : FrameT T W W') (hm : ¬ T m) : HasLm W' m F := pown_frame h hF hm
theorem HasLm.below {W W' : World} {m : Nat} {F : List LE} (h : HasLm W m F) (hB : Below W.heap.size W W') : HasLm W' m F := pown_frame (T := fun _ => False) h (FrameT.below hB) id
theorem HasLm.block {W : World} {m : Nat} {F : List LE} (h : HasLm W m F) : ∃ es clock, W.heap[m]? = some (.map es clock) := by
  obtain ⟨es, clock, h1, _⟩ := h
  exact ⟨es, clock, h1⟩
theorem HasLm.lt {W : World} {m : Nat} {F : List LE} (h : HasLm W m F) : m < W.heap.size := by
  obtain ⟨es, clock, h1⟩ := h.block
  exact heap_lt h1
theorem HasLm.put {w1 : World} {m n' : Nat} {F : List LE} (x : LE) (hm : w1.ownsMap Try.prog 3 plcElem m n' ((lmap F).put (.int .i64 x.k) (.held x.val))) : HasLm w1 m (putZ LE.k x F) := by
  rw [lmap_put] at hm
  have hm2 := pmap_tight hm
  rw [lmap_size] at hm2
  exact hm2
theorem HasLm.del {w1 : World} {m n' : Nat} {F : List LE} (s : Int) (hm : w1.ownsMap Try.prog 3 plcElem m n' ((lmap F).del (.int .i64 s))) : HasLm w1 m (delZ LE.k F s) := by
  rw [lmap_del] at hm
  have hm2 := pmap_tight hm
  rw [lmap_size] at hm2
  exact hm2
theorem zeroLog (w : World) : (zeroValue 91).run Try.prog w = .ok (.pointer none) w := by kernel_rfl
/-- What a look for a number gives. -/
def lookL (F : List LE) (s : Int) : Value := match getZ LE.k F s with | some x => x.val | none => .pointer none
theorem HasLm.look {W : World} {m : Nat} {F : List LE} (h : HasLm W m F) (s : Int) (hs : (Lit.int .i64 s).wf = true) : (Instr.lookup 87 (.map (some m)) (.int .i64 s) true).run Try.prog W = .ok (.tuple #[lookL F s, .bool (getZ LE.k F s).isSome]) W := by
  obtain ⟨v, ps, hrun, hv⟩ := World.ownsMap.look_ok h lawP Try.underlying87 (zeroLog W) (zd := .held (.pointer none)) (zp := []) rfl (Maps.keyOf_int_mk Try.underlying3 hs)
  rw [lmap_has] at hrun
  rw [lmap_at] at hv
  have e : v = lookL F s := by
    unfold lookL
    cases hg : getZ LE.k F s with
    | none => rw [hg] at hv; exact plcElem_some hv
    | some x => rw [hg] at hv; exact plcElem_some hv
  rw [← e]; exact hrun
theorem HasLm.look1 {W : World} {m : Nat} {F : List LE} (h : HasLm W m F) (s : Int) (hs : (Lit.int .i64 s).wf = true) : (Instr.lookup 87 (.map (some m)) (.int .i64 s) false).run Try.prog W = .ok (lookL F s) W := by
  obtain ⟨v, ps, hrun, hv⟩ := World.ownsMap.lookup h lawP Try.underlying87 (zeroLog W) (zd := .held (.pointer none)) (zp := []) rfl (Maps.keyOf_int_mk Try.underlying3 hs)
  rw [lmap_at] at hv
  have e : v = lookL F s := by
    unfold lookL
    cases hg : getZ LE.k F s with
    | none => rw [hg] at hv; exact plcElem_some hv
    | some x => rw [hg] at hv; exact plcElem_some hv
  rw [← e]; exact hrun

/-! ### A ledger -/
def ownLg (F : List LE) (e M k : Nat) : Prop := k = e ∨ k = M ∨ ∃ x ∈ F, k = x.d ∨ k = x.m
structure LedAt (W : World) (e M : Nat) (F : List LE) : Prop where
  box : W.heap[e]? = some (.cells #[.map (some M)] 89 (0, 0))
  map : HasLm W M F
  logs : ∀ x ∈ F, LogS W x.d x.m x.L
  off : ∀ x ∈ F, (x.d ≠ e ∧ x.m ≠ e) ∧ (x.d ≠ M ∧ x.m ≠ M)
  apart : F.Pairwise fun x y => (x.d ≠ y.d ∧ x.d ≠ y.m) ∧ (x.m ≠ y.d ∧ x.m ≠ y.m)
  ris : RisZ LE.k F
  ids : ∀ x ∈ F, 0 ≤ x.k ∧ x.k ≤ 999
theorem LedAt.eM {W : World} {e M : Nat} {F : List LE} (h : LedAt W e M F) : e ≠ M := by
  obtain ⟨es, ck, hm⟩ := h.map.block
  rintro rfl
  rw [h.box] at hm; cases hm
theorem LedAt.lt {W : World} {e M : Nat} {F : List LE} (h : LedAt W e M F) {k : Nat} (hk : ownLg F e M k) : k < W.heap.size := by
  rcases hk with rfl | rfl | ⟨x, hx, rfl | rfl⟩
  · exact heap_lt h.box
  · exact h.map.lt
  · exact (h.logs x hx).lt.1
  · exact (h.logs x hx).lt.2
/-- A row's block is not one of a ledger's. -/
theorem LedAt.row {W : World} {e M : Nat} {F : List LE} (h : LedAt W e M F) {a : Option Addr} {l : List EntryC} (hr : RowV W a l.length 3 (entryCells l)) {k : Nat} (hk : inBlkE a l.length k) : ¬ ownLg F e M k := by
  rintro (rfl | rfl | ⟨x, hx, he⟩)
  · obtain ⟨b', off, he, h0, rfl⟩ := hk
    obtain ⟨b2, off2, e2, _, hc⟩ := hr.2.2 h0
    rw [he] at e2
    cases e2
    have hl : (entryCells l).length = l.length * 3 := hr.1
    have h2 := hc 2 (by omega)
    obtain ⟨s, hs⟩ := entCells_str l (by omega)
    rw [hs, Lib.cell_of_heap h.box] at h2
    have h3 := Array.mem_of_getElem? h2
    simp at h3
  · obtain ⟨b', off, he, h0, rfl⟩ := hk
    obtain ⟨b2, off2, e2, _, hc⟩ := hr.2.2 h0
    rw [he] at e2
    cases e2
    have hl : (entryCells l).length = l.length * 3 := hr.1
    obtain ⟨o, ho, hcl⟩ := isCells_of_cell (hc 0 (by omega))
    obtain ⟨es, ck, hb⟩ := h.map.block
    rw [hb] at ho; cases ho; cases hcl
  · obtain ⟨_, a2, c2, h2⟩ := h.logs x hx
    have h3 := rowV_not_d h2.1 hr k hk
    have h4 := rowV_not_m h2.2.1 hr k hk
    omega
theorem LedAt.frame {T : Nat → Prop} {W W' : World} {e M : Nat} {F : List LE} (h : LedAt W e M F) (hF : FrameT T W W') (hT : ∀ k, ownLg F e M k → ¬ T k) (hR : ∀ (a : Option Addr) (l : List EntryC), RowV W a l.length 3 (entryCells l) → ∀ k, inBlkE a l.length k → ¬ T k) : LedAt W' e M F :=
  ⟨hF.get h.box (hT _ (.inl rfl)), h.map.frame hF (hT _ (.inr (.inl rfl))), fun x hx => (h.logs x hx).frame hF (hT _ (.inr (.inr ⟨x, hx, .inl rfl⟩))) (hT _ (.inr (.inr ⟨x, hx, .inr rfl⟩))) hR, h.off, h.apart, h.ris, h.ids⟩
theorem LedAt.below {W W' : World} {e M : Nat} {F : List LE} (h : LedAt W e M F) (hB : Below W.heap.size W W') : LedAt W' e M F :=
  h.frame (T := fun _ => False) (FrameT.below hB) (fun _ _ => id) (fun _ _ _ _ _ => id)
/-- Another ledger turns. -/
theorem LedAt.other {W W' : World} {e M e2 M2 : Nat} {F F2 : List LE} (h : LedAt W e M F) (h2 : LedAt W e2 M2 F2) (hF : FrameT (ownLg F2 e2 M2) W W') (hT : ∀ k, ownLg F e M k → ¬ ownLg F2 e2 M2 k) : LedAt W' e M F :=
  h.frame hF hT (fun a l hr k hk => h2.row hr hk)
def OpLg (W : World) (e M : Nat) (F F' : List LE) (W' : World) : Prop := LedAt W' e M F' ∧ FrameT (ownLg F e M) W W' ∧ ∀ k, ownLg F' e M k → ownLg F e M k ∨ W.heap.size ≤ k
theorem OpLg.refl {W : World} {e M : Nat} {F : List LE} (h : LedAt W e M F) : OpLg W e M F F W := ⟨h, FrameT.refl _ _, fun _ h => .inl h⟩
theorem OpLg.below {W W' : World} {e M : Nat} {F : List LE} (h : LedAt W e M F) (hB : Below W.heap.size W W') : OpLg W e M F F W' := ⟨h.below hB, FrameT.below hB, fun _ h => .inl h⟩
theorem OpLg.trans {W W1 W2 : World} {e M : Nat} {F F1 F2 : List LE} (h : OpLg W e M F F1 W1) (h2 : OpLg W1 e M F1 F2 W2) : OpLg W e M F F2 W2 := by
  refine ⟨h2.1, h.2.1.farP h2.2.1 (fun k hk => h.2.2 k hk), fun k hk => ?_⟩
  rcases h2.2.2 k hk with h3 | h3
  · exact h.2.2 k h3
  · exact .inr (Nat.le_trans h.2.1.size h3)
theorem mem_apart {α : Type} {R : α → α → Prop} (hs : ∀ x y, R x y → R y x) {l : List α} (h : l.Pairwise R) {x y : α} (hx : x ∈ l) (hy : y ∈ l) (hne : x ≠ y) : R x y := by
  induction l with
  | nil => cases hx
  | cons z r ih =>
    rw [List.pairwise_cons] at h
    rcases List.mem_cons.1 hx with rfl | hx2
    · rcases List.mem_cons.1 hy with rfl | hy
      · exact absurd rfl hne
      · exact h.1 y hy
    · rcases List.mem_cons.1 hy with rfl | hy2
      · exact hs _ _ (h.1 x hx2)
      · exact ih h.2 hx2 hy2
/-- The apart of two entries. -/
abbrev apL (x y : LE) : Prop := (x.d ≠ y.d ∧ x.d ≠ y.m) ∧ (x.m ≠ y.d ∧ x.m ≠ y.m)
theorem apL_symm (x y : LE) (h : apL x y) : apL y x := ⟨⟨Ne.symm h.1.1, Ne.symm h.2.1⟩, ⟨Ne.symm h.1.2, Ne.symm h.2.2⟩⟩
theorem pairwise_perm {α : Type} {R : α → α → Prop} (hs : ∀ x y, R x y → R y x) {l l' : List α} (hp : l.Perm l') (h : l.Pairwise R) : l'.Pairwise R := (hp.pairwise_iff (fun {x y} => hs x y)).1 h
/-- A log turns, as it is in the map. -/
theorem LedAt.turn {W W' : World} {e M : Nat} {F : List LE} {x : LE} {L : LG} (h : LedAt W e M F) (hx : x ∈ F) (hF : FrameT (fun k => k = x.d ∨ k = x.m) W W') (hL : LogS W' x.d x.m L) (hid : L.g.id = x.k) : OpLg W e M F (F.map fun y => if y.k = x.k then { y with L := L } else y) W' := by
  have hkey : ∀ y ∈ F, y.k = x.k → y = x := fun y hy hk => by
    have h1 := risZ_get h.ris hx
    have h2 := risZ_get h.ris hy
    rw [hk] at h2
    rw [h1] at h2; exact (Option.some.inj h2).symm
  have hm : ∀ y : LE, (if y.k = x.k then { y with L := L } else y).k = y.k ∧ (if y.k = x.k then { y with L := L } else y).d = y.d ∧ (if y.k = x.k then { y with L := L } else y).m = y.m := fun y => by
    split
    · rename_i h; exact ⟨hid.trans h.symm, rfl, rfl⟩
    · exact ⟨rfl, rfl, rfl⟩
  have hmx := h.off x hx
  have hne : (lmap (F.map fun y => if y.k = x.k then { y with L := L } else y)) = lmap F := by
    unfold lmap
    rw [List.map_map]
    congr 1
    apply List.map_congr_left
    intro y _
    show lent (if y.k = x.k then { y with L := L } else y) = lent y
    unfold lent LE.val
    rw [(hm y).1, (hm y).2.1]
  refine ⟨⟨hF.get h.box (by omega), ?_, ?_, ?_, ?_, ?_, ?_⟩, ?_, ?_⟩
  · unfold HasLm
    rw [hne, List.length_map]
    exact h.map.frame hF (by omega)
  · intro y hy
    obtain ⟨z, hz, rfl⟩ := List.mem_map.1 hy
    by_cases hk : z.k = x.k
    · obtain rfl := hkey z hz hk
      rw [if_pos rfl]; exact hL
    · rw [if_neg hk]
      have hap := mem_apart apL_symm h.apart hz hx (fun e => hk (by rw [e]))
      exact (h.logs z hz).other (h.logs x hx) hF hap.1 hap.2
  · intro y hy
    obtain ⟨z, hz, rfl⟩ := List.mem_map.1 hy
    rw [(hm z).2.1, (hm z).2.2]
    exact h.off z hz
  · rw [List.pairwise_map]
    refine h.apart.imp (fun {a b} hab => ?_)
    rw [(hm a).2.1, (hm a).2.2, (hm b).2.1, (hm b).2.2]
    exact hab
  · unfold RisZ
    rw [List.pairwise_map]
    refine h.ris.imp (fun {a b} hab => ?_)
    rw [(hm a).1, (hm b).1]
    exact hab
  · intro y hy
    obtain ⟨z, hz, rfl⟩ := List.mem_map.1 hy
    rw [(hm z).1]
    exact h.ids z hz
  · exact hF.mono (fun k hk => .inr (.inr ⟨x, hx, hk⟩))
  · rintro k (rfl | rfl | ⟨y, hy, hk⟩)
    · exact .inl (.inl rfl)
    · exact .inl (.inr (.inl rfl))
    · obtain ⟨z, hz, rfl⟩ := List.mem_map.1 hy
      rw [(hm z).2.1, (hm z).2.2] at hk
      exact .inl (.inr (.inr ⟨z, hz, hk⟩))
/-- A new log is put under a number that has none. -/
theorem LedAt.add {W W1 W' : World} {e M : Nat} {F : List LE} {x : LE} (h : LedAt W e M F) (hB : Below W.heap.size W W1) (hL : LogS W1 x.d x.m x.L) (hn : W.heap.size ≤ x.d ∧ W.heap.size ≤ x.m) (hid : 0 ≤ x.k ∧ x.k ≤ 999) (hno : getZ LE.k F x.k = none) (hF : FrameT (fun k => k = M) W1 W') (hm : HasLm W' M (putZ LE.k x F)) : OpLg W e M F (putZ LE.k x F) W' := by
  have h1 := h.below hB
  have hne := h.eM
  have hlt := h.lt (.inr (.inl rfl))
  have hle := h.lt (.inl rfl)
  have hMr : ∀ (a : Option Addr) (l : List EntryC), RowV W1 a l.length 3 (entryCells l) → ∀ k, inBlkE a l.length k → ¬ k = M := fun a l hr k hk hkm => h1.row hr hk (.inr (.inl hkm))
  have hmem : ∀ y, y ∈ putZ LE.k x F ↔ y = x ∨ y ∈ F := fun y => by
    rw [mem_putZ]
    constructor
    · rintro (h | h)
      · exact .inl h
      · exact .inr h.1
    · rintro (h | h)
      · exact .inl h
      · exact .inr ⟨h, getZ_none hno y h⟩
  have hxlt := hL.lt
  refine ⟨⟨hF.get h1.box hne, hm, ?_, ?_, ?_, risZ_put h.ris x, ?_⟩, ?_, ?_⟩
  · intro y hy
    rcases (hmem y).1 hy with rfl | hy
    · exact hL.frame hF (by omega) (by omega) hMr
    · have ho := h.off y hy
      exact (h1.logs y hy).frame hF ho.2.1 ho.2.2 hMr
  · intro y hy
    rcases (hmem y).1 hy with rfl | hy
    · omega
    · exact h.off y hy
  · have hp : (x :: F).Perm (putZ LE.k x F) := by
      unfold putZ
      have hd : delZ LE.k F x.k = F := List.filter_eq_self.2 (fun y hy => by simpa using getZ_none hno y hy)
      rw [hd]
      exact (insZ_perm LE.k x F).symm
    refine pairwise_perm apL_symm hp (List.pairwise_cons.2 ⟨fun y hy => ?_, h.apart⟩)
    have hy1 := h.lt (.inr (.inr ⟨y, hy, .inl rfl⟩))
    have hy2 := h.lt (.inr (.inr ⟨y, hy, .inr rfl⟩))
    show apL x y
    unfold apL
    omega
  · intro y hy
    rcases (hmem y).1 hy with rfl | hy
    · exact hid
    · exact h.ids y hy
  · exact (FrameT.below hB).trans (hF.mono (fun k hk => .inr (.inl hk)))
  · rintro k (rfl | rfl | ⟨y, hy, hk⟩)
    · exact .inl (.inl rfl)
    · exact .inl (.inr (.inl rfl))
    · rcases (hmem y).1 hy with rfl | hy
      · right; omega
      · exact .inl (.inr (.inr ⟨y, hy, hk⟩))
/-- A log is taken out. -/
theorem LedAt.cut {W W' : World} {e M : Nat} {F : List LE} (h : LedAt W e M F) (s : Int) (hF : FrameT (fun k => k = M) W W') (hm : HasLm W' M (delZ LE.k F s)) : OpLg W e M F (delZ LE.k F s) W' := by
  have hMr : ∀ (a : Option Addr) (l : List EntryC), RowV W a l.length 3 (entryCells l) → ∀ k, inBlkE a l.length k → ¬ k = M := fun a l hr k hk hkm => h.row hr hk (.inr (.inl hkm))
  have hsub : ∀ y, y ∈ delZ LE.k F s → y ∈ F := fun y hy => (mem_delZ.1 hy).1
  refine ⟨⟨hF.get h.box h.eM, hm, fun y hy => ?_, fun y hy => h.off y (hsub y hy), h.apart.sublist List.filter_sublist, risZ_del h.ris s, fun y hy => h.ids y (hsub y hy)⟩, hF.mono (fun k hk => .inr (.inl hk)), ?_⟩
  · have ho := h.off y (hsub y hy)
    exact (h.logs y (hsub y hy)).frame hF ho.2.1 ho.2.2 hMr
  · rintro k (rfl | rfl | ⟨y, hy, hk⟩)
    · exact .inl (.inl rfl)
    · exact .inl (.inr (.inl rfl))
    · exact .inl (.inr (.inr ⟨y, hsub y hy, hk⟩))

/-! ### What is done, as plain data -/
def ldo1 (A : List LG) (x : PL) (s t : Int) : List LG := if isB x.1 x.2 = true then (if x.1.k = 5 then delZ LG.n A x.1.g else putZ LG.n (doLG ((getZ LG.n A x.1.g).getD ⟨newP x.1.g, []⟩) x.1 x.2 s t) A) else A
def ldo (A : List LG) (l : List PL) (s t : Int) : List LG := l.foldl (fun A x => ldo1 A x s t) A
def okA (N : Nat) (A : List LG) : Prop := ∀ L ∈ A, okLG N L
theorem okLG_mono {N N' : Nat} {L : LG} (h : okLG N L) (hN : N ≤ N') : okLG N' L := ⟨h.1, Nat.le_trans h.2.1 hN, Nat.le_trans h.2.2 hN⟩
theorem ldo1_ok {N c : Nat} {A : List LG} (h : okA N A) (x : PL) (s t : Int) (hc : x.2.length ≤ c) : okA (N + (c + 2)) (ldo1 A x s t) := by
  unfold ldo1
  split
  · rename_i hb
    split
    · intro L hL; exact okLG_mono (h L (mem_delZ.1 hL).1) (by omega)
    · intro L hL
      rcases mem_putZ.1 hL with rfl | hL
      · refine okLG_mono (doLG_ok (N := N) ?_ x.1 x.2 s t) (by omega)
        cases hg : getZ LG.n A x.1.g with
        | none => exact okLG_mono (newP_ok ((isB_iff _ _).1 hb).1) (Nat.zero_le _)
        | some L => exact h L (getZ_some hg).1
      · exact okLG_mono (h L hL.1) (by omega)
  · intro L hL; exact okLG_mono (h L hL) (by omega)
theorem ldo1_id {A : List LG} (hA : ∀ L ∈ A, 0 ≤ L.n ∧ L.n ≤ 999) (x : PL) (s t : Int) : ∀ L ∈ ldo1 A x s t, 0 ≤ L.n ∧ L.n ≤ 999 := by
  unfold ldo1
  split
  · rename_i hb
    split
    · intro L hL; exact hA L (mem_delZ.1 hL).1
    · intro L hL
      rcases mem_putZ.1 hL with rfl | hL
      · show 0 ≤ (doLG _ x.1 x.2 s t).g.id ∧ (doLG _ x.1 x.2 s t).g.id ≤ 999
        rw [doLG_id]
        cases hg : getZ LG.n A x.1.g with
        | none => exact ((isB_iff _ _).1 hb).1
        | some L => exact hA L (getZ_some hg).1
      · exact hA L hL.1
  · exact hA
/-- In a rising row, an element is put in the place of the one of its number. -/
theorem put_turn {A : List LG} (hr : RisZ LG.n A) {L a : LG} (ha : a ∈ A) (hn : a.n = L.n) : (A.map fun y => if y.n = L.n then L else y) = putZ LG.n L A := by
  have hg : ∀ y : LG, LG.n (if y.n = L.n then L else y) = y.n := fun y => by
    split
    · rename_i h; exact h.symm
    · rfl
  refine risZ_ext (nm := LG.n) ?_ (risZ_put hr L) (fun i => ?_)
  · unfold RisZ
    rw [List.pairwise_map]
    exact hr.imp (fun {a b} h => by rw [hg, hg]; exact h)
  · rw [← getZ_map (nm := LG.n) (nb := LG.n) hg]
    by_cases hi : i = L.n
    · subst hi
      rw [getZ_put_same, show getZ LG.n A L.n = some a by rw [← hn]; exact risZ_get hr ha]
      show some (if a.n = L.n then L else a) = some L
      rw [if_pos hn]
    · rw [getZ_put_other LG.n (fun e => hi e.symm)]
      cases h : getZ LG.n A i with
      | none => rfl
      | some y =>
        have := (getZ_some h).2
        show some (if y.n = L.n then L else y) = some y
        rw [if_neg (by rw [this]; exact hi)]

end Go.Proofs.Ytdncdlbhgaehmaa

/- The contracts of package ledger's New, log. -/
namespace Go.Proofs.Ytdncdlbhgaehmaa
open Go.RowKit Go.Shelf
set_option linter.unusedVariables false
attribute [local go_sem] Oper.semAt_some wide_fn wide_round_fn

theorem grown_frame {w w' : World} {m : Nat} (g : w.grownBy w' (some m)) : FrameT (fun k => k = m) w w' := ⟨g.os, g.tape, g.output, g.size, fun k hk hT => g.block k hk (fun e => hT (Option.some.inj e))⟩
theorem lnew_any (W : World) : Calls Try.prog 26 #[] W fun e w' => e = .returned (.pointer (some ⟨W.heap.size + 1, 0, none⟩)) ∧ LedAt w' (W.heap.size + 1) W.heap.size [] ∧ Below W.heap.size W w' := by
  have hmm := @run_makeMap Try.prog
  go_enter Try.func26, Try.ntmps26
  go_wp2
  have hB := bel_alloc (bel_alloc (Below.refl W.heap.size W) (.map #[] 0)) (.cells #[.map (some W.heap.size)] 89)
  have hb := World.alloc_heap_new (W.alloc (.map #[] 0)) (.cells #[.map (some W.heap.size)] 89)
  rw [World.size_alloc] at hb
  refine bodyPost_ret (results_tmp rfl _ _ _) rfl ⟨rfl, ⟨hb, ?_, (fun x hx => by cases hx), (fun x hx => by cases hx), List.Pairwise.nil, List.Pairwise.nil, (fun x hx => by cases hx)⟩, hB⟩
  exact (World.ownsMap_made W Try.prog 3 plcElem).alloc _
/-- What log leaves: the log is there, x; it was there, or it is new. -/
def LogPost (W : World) (e M : Nat) (F : List LE) (id : Int) (r : Ending) (w' : World) : Prop :=
  ∃ x F', r = .returned (.pointer (some ⟨x.d, 0, none⟩)) ∧ OpLg W e M F F' w' ∧ x ∈ F' ∧ x.k = id ∧ (getZ LE.k F id = some x ∧ F' = F ∨ getZ LE.k F id = none ∧ x.L = ⟨newP id, []⟩ ∧ F' = putZ LE.k x F)
set_option maxRecDepth 100000 in
set_option maxHeartbeats 1000000 in
theorem llog_any {W : World} {e M : Nat} {F : List LE} (h : LedAt W e M F) (hF : F.length < 100000) (id : Int) (hid : 0 ≤ id ∧ id ≤ 999) : Calls Try.prog 45 #[.pointer (some ⟨e, 0, none⟩), .int .i64 id] W (LogPost W e M F id) := by
  have c0 : W.cell? ⟨e, 0, none⟩ = some (.map (some M)) := cell_of_row _ _ 0 _ _ _ h.box
  have hw := wfP (n := id) ⟨by omega, by omega⟩
  have hlk := h.map.look id hw
  have HM := Lib.hid h
  cases hg : getZ LE.k F id with
  | some x =>
    obtain ⟨hx, hk⟩ := getZ_some hg
    rw [hg, show lookL F id = x.val by unfold lookL; rw [hg]] at hlk
    have HX := Lib.hid (show LogPost W e M F id (.returned x.val) W from ⟨x, F, rfl, OpLg.refl h, hx, hk, .inl ⟨hg, rfl⟩⟩)
    clear h hx hk hg HM
    dsimp only [LE.val] at *
    go_enter Try.func45, Try.ntmps45
    go_wp2
    go_ret
    exact HX.out
  | none =>
    rw [hg, show lookL F id = .pointer none by unfold lookL; rw [hg]] at hlk
    have HG := Lib.hid hg
    have GN := Lib.hid (fun W => pnewS_any id W)
    have hkey := Maps.keyOf_int_mk Try.underlying3 hw
    have hFm : F.length < maxLen := by unfold maxLen; omega
    have HID := Lib.hid hid
    clear h hg hid hw
    go_enter Try.func45, Try.ntmps45
    go_wp2_with (first
      | (go_at_call 70; ((with_reducible refine (GN.out _).mono ?_); rintro r w1 ⟨d, m, rfl, h1, h2, hL, hB1⟩; have HL := Lib.hid hL; have HB1 := Lib.hid hB1; have hM1 := HM.out.below hB1; have HM1 := Lib.hid hM1; have hown := Lib.hid hM1.map; have c1 : w1.cell? ⟨e, 0, none⟩ = some (.map (some M)) := cell_of_row _ _ 0 _ _ _ hM1.box; clear hM1 hL hB1))
      | (at_mapUpdate; refine wpList_mapUpdate_own _ rfl _ _ _ 87 rfl 3 91 lawP Try.underlying87 plcElem M F.length (lmap F) rfl hown.out hFm _ (.pointer (some ⟨d, 0, none⟩)) _ rfl rfl hkey _ [] rfl ?_; intro w4 hown4 hturn4))
    go_ret
    have hF4 := grown_frame hturn4
    have hop := LedAt.add (x := ⟨d, m, ⟨newP id, []⟩⟩) HM.out HB1.out HL.out ⟨(show W.heap.size ≤ d by omega), h1⟩ HID.out HG.out hF4 (HasLm.put ⟨d, m, ⟨newP id, []⟩⟩ hown4)
    exact ⟨⟨d, m, ⟨newP id, []⟩⟩, _, rfl, hop, mem_putZ.2 (.inl rfl), rfl, .inr ⟨HG.out, rfl, rfl⟩⟩

end Go.Proofs.Ytdncdlbhgaehmaa

/- What a list of parts does to a ledger: words for package ledger's Do. -/
namespace Go.Proofs.Ytdncdlbhgaehmaa
open Go.RowKit Go.Shelf
set_option linter.unusedVariables false
attribute [local go_sem] Oper.semAt_some wide_fn wide_round_fn

theorem putZ_putZ {α : Type} {nm : α → Int} {F : List α} (hr : RisZ nm F) {x y : α} (h : nm x = nm y) : putZ nm x (putZ nm y F) = putZ nm x F := by
  refine risZ_ext (nm := nm) (risZ_put (risZ_put hr y) x) (risZ_put hr x) (fun i => ?_)
  by_cases hi : nm x = i
  · subst hi; rw [getZ_put_same, getZ_put_same]
  · rw [getZ_put_other nm hi, getZ_put_other nm hi, getZ_put_other nm (by rw [← h]; exact hi)]
theorem LedAt.risL {W : World} {e M : Nat} {F : List LE} (h : LedAt W e M F) : RisZ LG.n (F.map LE.L) := by
  unfold RisZ
  rw [List.pairwise_map]
  exact h.ris
theorem ldo_plain {W : World} {e M : Nat} {F : List LE} (h : LedAt W e M F) {p : PartC} {pl : List EntryC} {s t : Int} (hB : isB p pl = true) (hk : p.k ≠ 5) {x : LE} {F5 : List LE} {w5 : World} (h5 : LedAt w5 e M F5) (hx : x ∈ F5) (hxk : x.k = p.g)
    (hc : getZ LE.k F p.g = some x ∧ F5 = F ∨ getZ LE.k F p.g = none ∧ x.L = ⟨newP p.g, []⟩ ∧ F5 = putZ LE.k x F) :
    (F5.map fun y => if y.k = x.k then { y with L := doLG x.L p pl s t } else y).map LE.L = ldo1 (F.map LE.L) (p, pl) s t := by
  have hid : (doLG x.L p pl s t).n = x.L.n := doLG_id x.L p pl s t
  have e1 : (F5.map fun y => if y.k = x.k then { y with L := doLG x.L p pl s t } else y).map LE.L = (F5.map LE.L).map (fun y => if y.n = (doLG x.L p pl s t).n then doLG x.L p pl s t else y) := by
    rw [List.map_map, List.map_map]
    apply List.map_congr_left
    intro y _
    show (if y.k = x.k then ({ y with L := doLG x.L p pl s t } : LE) else y).L = if y.L.n = (doLG x.L p pl s t).n then doLG x.L p pl s t else y.L
    rw [hid]
    by_cases hy : y.k = x.k
    · rw [if_pos hy, if_pos hy]
    · rw [if_neg hy, if_neg hy]
  rw [e1, put_turn h5.risL (a := x.L) (List.mem_map.2 ⟨x, hx, rfl⟩) hid.symm]
  unfold ldo1
  rw [if_pos hB, if_neg hk]
  rcases hc with ⟨hg, rfl⟩ | ⟨hg, hL, rfl⟩
  · rw [show getZ LG.n (F5.map LE.L) p.g = some x.L by rw [← getZ_map (nm := LE.k) (nb := LG.n) (g := LE.L) (fun _ => rfl), hg]; rfl]
    rfl
  · rw [show getZ LG.n (F.map LE.L) p.g = none by rw [← getZ_map (nm := LE.k) (nb := LG.n) (g := LE.L) (fun _ => rfl), hg]; rfl]
    rw [putZ_map (nm := LE.k) (nb := LG.n) (g := LE.L) (fun _ => rfl), putZ_putZ h.risL hid]
    rw [hL]; rfl
theorem LedAt.prow {W : World} {e M : Nat} {F : List LE} (h : LedAt W e M F) {a : Option Addr} {l : List PL} (hr : RowV W a l.length 10 (partCells l)) {k : Nat} (hk : inBlkE a l.length k) : ¬ ownLg F e M k := by
  obtain ⟨b', off, he, h0, rfl⟩ := hk
  obtain ⟨b2, off2, e2, _, hc⟩ := hr.2.2 h0
  rw [he] at e2
  cases e2
  have hl : (partCells l).length = l.length * 10 := hr.1
  have h9 := hc 9 (by omega)
  obtain ⟨o, ho, hcl⟩ := isCells_of_cell h9
  rintro (rfl | rfl | ⟨x, hx, rfl | rfl⟩)
  · rw [Lib.cell_of_heap h.box] at h9
    have := (Array.getElem?_eq_some_iff.1 h9).1
    simp at this
  · obtain ⟨es, ck, hb⟩ := h.map.block
    rw [hb] at ho; cases ho; cases hcl
  · obtain ⟨_, a2, c2, h2⟩ := h.logs x hx
    rw [Lib.cell_of_heap h2.1] at h9
    have := (Array.getElem?_eq_some_iff.1 h9).1
    simp [logArr] at this
    omega
  · obtain ⟨_, a2, c2, h2⟩ := h.logs x hx
    obtain ⟨es, ck, hb⟩ := h2.2.1.block
    rw [hb] at ho; cases ho; cases hcl
theorem HasP.led {W W' : World} {e M : Nat} {F : List LE} {a : Option Addr} {len : Nat} {L : List PL} (hp : HasP W a len L) (h : LedAt W e M F) (hF : FrameT (ownLg F e M) W W') : HasP W' a len L := by
  obtain ⟨h1, h2, h3, h4⟩ := hp
  subst h1
  exact ⟨rfl, h2, rowV_frame h3 hF (fun k hk => h.prow h3 hk), fun x hx => by
    obtain ⟨g1, g2, g3⟩ := h4 x hx
    exact ⟨g1, g2, rowV_frame g3 hF (fun k hk => by rw [← g1] at hk g3; exact h.row g3 hk)⟩⟩
theorem ldo_take (A : List LG) (L : List PL) (s t : Int) {j : Nat} (hj : j < L.length) : ldo A (L.take (j + 1)) s t = ldo1 (ldo A (L.take j) s t) L[j] s t := by
  unfold ldo
  rw [List.take_succ_eq_append_getElem hj, List.foldl_append]; rfl
/-- Behind the first j parts. -/
def LdoJ (W : World) (e M : Nat) (F : List LE) (N c : Nat) (L : List PL) (s t : Int) (j : Nat) (w' : World) : Prop :=
  ∃ F', OpLg W e M F F' w' ∧ F'.map LE.L = ldo (F.map LE.L) (L.take j) s t ∧ okA (N + j * (c + 2)) (F'.map LE.L) ∧ F'.length ≤ F.length + j
theorem ldo1_len (A : List LG) (x : PL) (s t : Int) : (ldo1 A x s t).length ≤ A.length + 1 := by
  unfold ldo1
  split
  · split
    · have := delZ_len LG.n A x.1.g; omega
    · exact putZ_len _ _ _
  · omega
theorem LdoJ.next {W w1 w2 : World} {e M : Nat} {F F1 F2 : List LE} {N c : Nat} {L : List PL} {s t : Int} {j : Nat} (hj : j < L.length) (hc : L[j].2.length ≤ c) (h : OpLg W e M F F1 w1) (h1 : F1.map LE.L = ldo (F.map LE.L) (L.take j) s t) (h3 : okA (N + j * (c + 2)) (F1.map LE.L)) (h4 : F1.length ≤ F.length + j) (h2 : OpLg w1 e M F1 F2 w2) (he : F2.map LE.L = ldo1 (F1.map LE.L) L[j] s t) : LdoJ W e M F N c L s t (j + 1) w2 := by
  refine ⟨F2, h.trans h2, by rw [ldo_take _ _ _ _ hj, he, h1], ?_, ?_⟩
  · rw [he]
    have := ldo1_ok h3 L[j] s t hc
    rw [Nat.succ_mul, ← Nat.add_assoc]
    exact this
  · have := ldo1_len (F1.map LE.L) L[j] s t
    rw [← he, List.length_map, List.length_map] at this
    omega

theorem hasE_led {W W' : World} {e M : Nat} {F : List LE} {p : PartC} {pl : List EntryC} (hE : HasE W p pl) (h : LedAt W e M F) (hF : FrameT (ownLg F e M) W W') : HasE W' p pl := by
  obtain ⟨g1, g2, g3⟩ := hE
  exact ⟨g1, g2, rowV_frame g3 hF (fun k hk => by rw [← g1] at hk g3; exact h.row g3 hk)⟩
/-- Within a round: the ledger, the part's box, the place's box. -/
def DoB (W0 : World) (e M : Nat) (F0 : List LE) (Bp B0 : Nat) (A : Array Value) (s t : Int) (p : PartC) (pl : List EntryC) (F : List LE) (W : World) : Prop :=
  OpLg W0 e M F0 F W ∧ (W.heap[Bp]? = some (.cells A 41 (0, 0)) ∧ W.heap[B0]? = some (.cells #[.int .i64 s, .int .i64 t] 34 (0, 0))) ∧ HasE W p pl ∧ ¬ ownLg F e M Bp ∧ ¬ ownLg F e M B0
theorem DoB.op {W0 W W' : World} {e M : Nat} {F0 F F' : List LE} {Bp B0 : Nat} {A : Array Value} {s t : Int} {p : PartC} {pl : List EntryC} (h : DoB W0 e M F0 Bp B0 A s t p pl F W) (ho : OpLg W e M F F' W') : DoB W0 e M F0 Bp B0 A s t p pl F' W' := by
  obtain ⟨h1, ⟨h2, h3⟩, h4, h5, h6⟩ := h
  refine ⟨h1.trans ho, ⟨ho.2.1.get h2 h5, ho.2.1.get h3 h6⟩, hasE_led h4 h1.1 ho.2.1, fun hk => ?_, fun hk => ?_⟩
  · rcases ho.2.2 _ hk with h | h
    · exact h5 h
    · have := heap_lt h2; omega
  · rcases ho.2.2 _ hk with h | h
    · exact h6 h
    · have := heap_lt h3; omega
theorem DoB.below {W0 W W' : World} {e M : Nat} {F0 F : List LE} {Bp B0 : Nat} {A : Array Value} {s t : Int} {p : PartC} {pl : List EntryC} (h : DoB W0 e M F0 Bp B0 A s t p pl F W) (hB : Below W.heap.size W W') : DoB W0 e M F0 Bp B0 A s t p pl F W' := h.op (OpLg.below h.1.1 hB)
theorem DoB.drew {W0 W : World} {e M : Nat} {F0 F : List LE} {Bp B0 : Nat} {A : Array Value} {s t : Int} {p : PartC} {pl : List EntryC} (h : DoB W0 e M F0 Bp B0 A s t p pl F W) : DoB W0 e M F0 Bp B0 A s t p pl F W.drew := h.below (Below.refl _ _).drew
theorem dolog {W0 W : World} {e M : Nat} {F0 F : List LE} {Bp B0 : Nat} {A : Array Value} {s t : Int} {p : PartC} {pl : List EntryC} (h : DoB W0 e M F0 Bp B0 A s t p pl F W) (hF : F.length < 100000) (id : Int) (hid : 0 ≤ id ∧ id ≤ 999) : Calls Try.prog 45 #[.pointer (some ⟨e, 0, none⟩), .int .i64 id] W fun r w' => ∃ x F5, r = .returned (.pointer (some ⟨x.d, 0, none⟩)) ∧ DoB W0 e M F0 Bp B0 A s t p pl F5 w' ∧ x ∈ F5 ∧ x.k = id ∧ (getZ LE.k F id = some x ∧ F5 = F ∨ getZ LE.k F id = none ∧ x.L = ⟨newP id, []⟩ ∧ F5 = putZ LE.k x F) := by
  refine (llog_any h.1.1 hF id hid).mono ?_
  rintro r w' ⟨x, F5, rfl, h1, h2, h3, h4⟩
  exact ⟨x, F5, rfl, h.op h1, h2, h3, h4⟩
theorem dodo {W0 W : World} {e M N : Nat} {F0 F : List LE} {Bp B0 : Nat} {A : Array Value} {s t : Int} {p : PartC} {pl : List EntryC} (x : LE) (h : DoB W0 e M F0 Bp B0 A s t p pl F W) (hx : x ∈ F) (hok : okLG N x.L) (hN : N ≤ 100000) (hpc : pl.length ≤ p.cap) (hpl : pl.length < 100000) : Calls Try.prog 46 #[.pointer (some ⟨x.d, 0, none⟩), p.val, .agg #[.int .i64 s, .int .i64 t]] W fun r w' => (∃ v, r = .returned v) ∧ DoB W0 e M F0 Bp B0 A s t p pl (F.map fun y => if y.k = x.k then { y with L := doLG x.L p pl s t } else y) w' := by
  refine (pdo_any (h.1.1.logs x hx) hok hN p pl h.2.2.1 hpc hpl s t).mono ?_
  rintro r w' ⟨h1, h2, h3⟩
  exact ⟨h1, h.op (LedAt.turn h.1.1 hx h3 h2 (doLG_id x.L _ _ _ _))⟩

end Go.Proofs.Ytdncdlbhgaehmaa

/- The contract of package ledger's Do. -/
namespace Go.Proofs.Ytdncdlbhgaehmaa
open Go.RowKit Go.Shelf
set_option linter.unusedVariables false
attribute [local go_sem] Oper.semAt_some wide_fn wide_round_fn

set_option maxRecDepth 100000 in
set_option maxHeartbeats 4000000 in
theorem ldo_any {W : World} {e M N c : Nat} {F : List LE} (h : LedAt W e M F) (hok : okA N (F.map LE.L)) (a : Option Addr) (len cap : Nat) (L : List PL) (hp : HasP W a len L) (hc : ∀ x ∈ L, x.2.length ≤ c ∧ x.2.length ≤ x.1.cap) (hN : N + len * (c + 2) ≤ 100000) (hFl : F.length + len < 100000) (s t : Int) :
    Calls Try.prog 27 #[.pointer (some ⟨e, 0, none⟩), .slice a len cap, .agg #[.int .i64 s, .int .i64 t]] W fun r w' => (∃ v, r = .returned v) ∧ ∃ F', OpLg W e M F F' w' ∧ F'.map LE.L = ldo (F.map LE.L) L s t ∧ okA (N + len * (c + 2)) (F'.map LE.L) ∧ F'.length ≤ F.length + len := by
  have hlen := hp.1
  have hl9 := hp.2.1
  have hA := bel_alloc (Below.refl W.heap.size W) (.cells #[.int .i64 s, .int .i64 t] 34)
  have hpl := World.alloc_heap_new W (.cells #[.int .i64 s, .int .i64 t] 34)
  have HE := Lib.hid (fun w' (hB : LdoJ (W.alloc (.cells #[.int .i64 s, .int .i64 t] 34)) e M F N c L s t len w') => (show ∃ F', OpLg W e M F F' w' ∧ F'.map LE.L = ldo (F.map LE.L) L s t ∧ okA (N + len * (c + 2)) (F'.map LE.L) ∧ F'.length ≤ F.length + len from by
    obtain ⟨F', h1, h2, h3, h4⟩ := hB
    exact ⟨F', (OpLg.below h hA).trans h1, by rw [h2, List.take_of_length_le (by omega)], h3, h4⟩))
  have HLed := Lib.hid (h.below hA)
  have HP := Lib.hid (hp.below hA)
  have HPl := Lib.hid hpl
  have HOut := Lib.hid (show ¬ ownLg F e M W.heap.size from fun hk => by have := h.lt hk; omega)
  have HOK := Lib.hid hok
  have HC := Lib.hid hc
  have HLen := Lib.hid hlen
  have HN := Lib.hid hN
  have HFl := Lib.hid hFl
  clear hA hpl h hp hok hc hlen hN hFl
  go_enter Try.func27, Try.ntmps27
  go_wp2
  obtain ⟨B0, hB0⟩ : ∃ B0, B0 = W.heap.size := ⟨_, rfl⟩
  rw [← hB0] at HPl HOut ⊢
  generalize W.alloc (.cells #[.int .i64 s, .int .i64 t] 34) = wa at *
  clear hB0
  go_loopw [10] (fun s10 wr => ∃ j : Nat, j ≤ len ∧ s10 = .int .i64 j ∧ LdoJ wa e M F N c L s t j wr) (fun s10 _ => len - (intOf s10).toNat)
  case atStart => exact ⟨0, by omega, rfl, F, OpLg.refl HLed.out, by simp [ldo], by simpa using HOK.out, by omega⟩
  case round =>
    obtain ⟨j, hj, rfl, hJ⟩ := hrel
    by_cases hlt : j < len
    · obtain ⟨F1, hop, hpl1, hok1, hlen1⟩ := hJ
      have hp1 := HP.out.led HLed.out hop.2.1
      have hpl0 := hop.2.1.get HPl.out HOut.out
      have hjL : j < L.length := by have := HLen.out; omega
      obtain ⟨b, off, ha, hb, hx⟩ := hp1.2.2.1.2.2 (by omega)
      subst ha
      obtain ⟨p0, p1, p2, p3, p4, p5, p6, p7, p8, p9⟩ := part_at10 hb (Below.refl _ _) hx hjL
      have hcj := HC.out L[j] (List.getElem_mem hjL)
      have hpe := hp1.2.2.2 L[j] (List.getElem_mem hjL)
      have HNx := Lib.hid (fun w1 w2 F2 (h2 : OpLg w1 e M F1 F2 w2) (h : OpLg wa e M F F1 w1) (he : F2.map LE.L = ldo1 (F1.map LE.L) L[j] s t) => LdoJ.next (N := N) (c := c) hjL hcj.1 h hpl1 hok1 hlen1 h2 he)
      have hji : (j : Int) < (len : Int) := by omega
      have hj0 : (0 : Int) ≤ (j : Int) := by omega
      clear hp1 hx
      generalize L[j] = y at *
      obtain ⟨⟨pg, pk, pa, plen, pcap, pht, phv, phc, pi, pt, pm, ph⟩, pl⟩ := y
      dsimp only at *
      have HOp := Lib.hid hop
      have HF1 := Lib.hid (show F1.length < 100000 by have := HFl.out; omega)
      have HCJ := Lib.hid hcj
      have HOK1 := Lib.hid hok1
      have HN1 := Lib.hid (show N + j * (c + 2) ≤ 100000 ∧ c + 2 ≤ 100000 by
        have h1 := HN.out
        have h2 : (j + 1) * (c + 2) ≤ len * (c + 2) := Nat.mul_le_mul_right _ (by omega)
        rw [Nat.succ_mul] at h2
        omega)
      clear hop hcj hok1 hpl1 hlen1
      have HB0 := Lib.hid hpl0
      have HHE := Lib.hid hpe
      clear hpl0 hpe hb
      go_upto_region 5 with (fail)
      clear p0 p1 p2 p3 p4 p5 p6 p7 p8 p9
      have hbp := World.alloc_heap_new wr (.cells #[.int .i64 pg, .int .i64 pk, .slice pa plen pcap, .int .i64 pht, .int .i64 phv, .int .i64 phc, .int .i64 pi, .int .i64 pt, .bool pm, .bool ph] 41)
      have hAp := bel_alloc (Below.refl wr.heap.size wr) (.cells #[.int .i64 pg, .int .i64 pk, .slice pa plen pcap, .int .i64 pht, .int .i64 phv, .int .i64 phc, .int .i64 pi, .int .i64 pt, .bool pm, .bool ph] 41)
      generalize wr.alloc (.cells #[.int .i64 pg, .int .i64 pk, .slice pa plen pcap, .int .i64 pht, .int .i64 phv, .int .i64 phc, .int .i64 pi, .int .i64 pt, .bool pm, .bool ph] 41) = wb at *
      have HWZ := Lib.hid (show ¬ ownLg F1 e M B0 ∧ (∀ k, ownLg F1 e M k → k < wr.heap.size) from ⟨fun hk => by
          rcases HOp.out.2.2 _ hk with h | h
          · exact HOut.out h
          · have := heap_lt HPl.out; omega, fun k hk => HOp.out.1.lt hk⟩)
      obtain ⟨Bp, hBp⟩ : ∃ Bp, Bp = wr.heap.size := ⟨_, rfl⟩
      have HBp := Lib.hid hBp
      rw [← hBp] at hbp ⊢
      clear hBp
      have HOb := Lib.hid (show DoB wr e M F1 Bp B0 #[.int .i64 pg, .int .i64 pk, .slice pa plen pcap, .int .i64 pht, .int .i64 phv, .int .i64 phc, .int .i64 pi, .int .i64 pt, .bool pm, .bool ph] s t ⟨pg, pk, pa, plen, pcap, pht, phv, phc, pi, pt, pm, ph⟩ pl F1 wb from ⟨OpLg.below HOp.out.1 hAp, ⟨hbp, (hAp.block _ (heap_lt HB0.out)).trans HB0.out⟩, HHE.out.below hAp, fun hk => by have := HWZ.out.2 _ hk; have := HBp.out; omega, HWZ.out.1⟩)
      have GI := Lib.hid (fun W' (hB : Below wb.heap.size wb W') => (show Gives Try.prog 44 #[.agg #[.int .i64 pg, .int .i64 pk, .slice pa plen pcap, .int .i64 pht, .int .i64 phv, .int .i64 phc, .int .i64 pi, .int .i64 pt, .bool pm, .bool ph]] W' (.bool (isB ⟨pg, pk, pa, plen, pcap, pht, phv, phc, pi, pt, pm, ph⟩ pl)) from is_any ⟨pg, pk, pa, plen, pcap, pht, phv, phc, pi, pt, pm, ph⟩ pl W' (HOb.out.below hB).2.2.1))
      obtain ⟨p0, p1, p2, p3, p4, p5, p6, p7, p8, p9⟩ := arr10p hbp
      clear hbp hAp
      cases hb : isB ⟨pg, pk, pa, plen, pcap, pht, phv, phc, pi, pt, pm, ph⟩ pl
      · rw [hb] at GI
        have HEq := Lib.hid (show F1.map LE.L = ldo1 (F1.map LE.L) (⟨pg, pk, pa, plen, pcap, pht, phv, phc, pi, pt, pm, ph⟩, pl) s t from by unfold ldo1; rw [if_neg (by rw [hb]; simp)])
        clear hb
        go_wp2_with (go_at_call 44; ((with_reducible refine (GI.out _ (Below.refl _ _)).mono ?_); rintro r w5 ⟨rfl, hB5⟩))
        exact ⟨⟨j + 1, by omega, by go_num, HNx.out wr w5 F1 (HOb.out.below hB5).1 HOp.out HEq.out⟩, by simp [intOf]; omega⟩
      · rw [hb] at GI
        have hgid := ((isB_iff _ _).1 hb).1
        dsimp only at hgid
        by_cases hk : pk = 5
        · subst hk
          have HEq := Lib.hid (show delZ LG.n (F1.map LE.L) pg = ldo1 (F1.map LE.L) (⟨pg, 5, pa, plen, pcap, pht, phv, phc, pi, pt, pm, ph⟩, pl) s t from by unfold ldo1; rw [if_pos hb, if_pos rfl])
          clear hb
          have hkey := Maps.keyOf_int_mk Try.underlying3 (wfP (n := pg) ⟨by omega, by omega⟩)
          clear hgid
          go_wp2_with (go_at_call 44; ((with_reducible refine (GI.out _ (Below.refl _ _)).mono ?_); rintro r w5 ⟨rfl, hB5⟩; have HO5 := Lib.hid (HOb.out.below hB5); have hPb5 := HO5.out.2.1.1; clear p0 p1 p2 p3 p4 p5 p6 p7 p8 p9; obtain ⟨p0, p1, p2, p3, p4, p5, p6, p7, p8, p9⟩ := arr10p hPb5; have c0 : w5.cell? ⟨e, 0, none⟩ = some (.map (some M)) := cell_of_row _ _ 0 _ _ _ HO5.out.1.1.box; clear hPb5 hB5))
          go_still_tail 6, (by kernel_rfl)
          change wpList _ _ _ _ _ w5.drew
          have HO6 := Lib.hid HO5.out.drew.1
          have hown := Lib.hid HO6.out.1.map
          go_wp2_with (at_delete; refine wpList_delete_own _ rfl _ _ 87 3 rfl 91 lawP Try.underlying87 plcElem M F1.length (lmap F1) rfl hown.out _ _ rfl hkey ?_; intro w7 hown7 hturn7)
          have hF7 := turned_frame hturn7
          have ho7 := HO6.out.trans (LedAt.cut HO6.out.1 pg hF7 (HasLm.del pg hown7))
          exact ⟨⟨j + 1, by omega, by go_num, HNx.out wr w7 _ ho7 HOp.out (by rw [← HEq.out]; exact delZ_map (nm := LE.k) (nb := LG.n) (g := LE.L) (fun _ => rfl) F1 pg)⟩, by simp [intOf]; omega⟩
        · have hkb : (pk == 5) = false := by rw [beq_eq_false_iff_ne]; exact hk
          have HEq := Lib.hid (fun w5 (hL : LedAt w5 e M F1) x F5 w6 h5 hx hxk hc => ldo_plain (s := s) (t := t) hL hb hk (x := x) (F5 := F5) (w5 := w6) h5 hx hxk hc)
          clear hb hk
          have HG := Lib.hid hgid
          have GL := Lib.hid (fun w5 (hL : DoB wr e M F1 Bp B0 #[.int .i64 pg, .int .i64 pk, .slice pa plen pcap, .int .i64 pht, .int .i64 phv, .int .i64 phc, .int .i64 pi, .int .i64 pt, .bool pm, .bool ph] s t ⟨pg, pk, pa, plen, pcap, pht, phv, phc, pi, pt, pm, ph⟩ pl F1 w5) => dolog hL HF1.out pg HG.out)
          have GD := Lib.hid (fun w6 x F5 (h6 : DoB wr e M F1 Bp B0 #[.int .i64 pg, .int .i64 pk, .slice pa plen pcap, .int .i64 pht, .int .i64 phv, .int .i64 phc, .int .i64 pi, .int .i64 pt, .bool pm, .bool ph] s t ⟨pg, pk, pa, plen, pcap, pht, phv, phc, pi, pt, pm, ph⟩ pl F5 w6) (hx : x ∈ F5) (hok : okLG (N + j * (c + 2)) x.L) => (show Calls Try.prog 46 #[.pointer (some ⟨x.d, 0, none⟩), .agg #[.int .i64 pg, .int .i64 pk, .slice pa plen pcap, .int .i64 pht, .int .i64 phv, .int .i64 phc, .int .i64 pi, .int .i64 pt, .bool pm, .bool ph], .agg #[.int .i64 s, .int .i64 t]] w6 (fun r w' => (∃ v, r = .returned v) ∧ DoB wr e M F1 Bp B0 #[.int .i64 pg, .int .i64 pk, .slice pa plen pcap, .int .i64 pht, .int .i64 phv, .int .i64 phc, .int .i64 pi, .int .i64 pt, .bool pm, .bool ph] s t ⟨pg, pk, pa, plen, pcap, pht, phv, phc, pi, pt, pm, ph⟩ pl (F5.map fun y => if y.k = x.k then { y with L := doLG x.L ⟨pg, pk, pa, plen, pcap, pht, phv, phc, pi, pt, pm, ph⟩ pl s t } else y) w') from dodo x h6 hx hok (by have := HN1.out; omega) HCJ.out.2 (by have := HN1.out; have := HCJ.out; omega)))
          clear hgid
          go_wp2_with (go_at_call 44; ((with_reducible refine (GI.out _ (Below.refl _ _)).mono ?_); rintro r w5 ⟨rfl, hB5⟩; have HO5 := Lib.hid (HOb.out.below hB5); have hPb5 := HO5.out.2.1.1; clear p0 p1 p2 p3 p4 p5 p6 p7 p8 p9; obtain ⟨p0, p1, p2, p3, p4, p5, p6, p7, p8, p9⟩ := arr10p hPb5; have hq5 := HO5.out.2.1.2; have q0 : w5.cell? ⟨B0, 0, none⟩ = some (.int .i64 s) := cell_of_row _ _ 0 _ _ _ hq5; have q1 : w5.cell? ⟨B0, 1, none⟩ = some (.int .i64 t) := cell_of_row _ _ 1 _ _ _ hq5; clear hq5 hPb5 hB5))
          go_region_held3 (fun W' => W'.cell? ⟨Bp, 0, none⟩ = some (.int .i64 pg) ∧ W'.cell? ⟨Bp, 1, none⟩ = some (.int .i64 pk) ∧ W'.cell? ⟨Bp, 2, none⟩ = some (.slice pa plen pcap) ∧ W'.cell? ⟨Bp, 3, none⟩ = some (.int .i64 pht) ∧ W'.cell? ⟨Bp, 4, none⟩ = some (.int .i64 phv) ∧ W'.cell? ⟨Bp, 5, none⟩ = some (.int .i64 phc) ∧ W'.cell? ⟨Bp, 6, none⟩ = some (.int .i64 pi) ∧ W'.cell? ⟨Bp, 7, none⟩ = some (.int .i64 pt) ∧ W'.cell? ⟨Bp, 8, none⟩ = some (.bool pm) ∧ W'.cell? ⟨Bp, 9, none⟩ = some (.bool ph) ∧ W'.cell? ⟨B0, 0, none⟩ = some (.int .i64 s) ∧ W'.cell? ⟨B0, 1, none⟩ = some (.int .i64 t)) (go_keep) (first
            | (go_at_call 46; ((with_reducible refine (GD.out _ x F5 ?h6 hx6 hcx).mono ?_); (case h6 => first | exact hop6 | exact hop6.drew); rintro r w7 ⟨⟨v7, rfl⟩, hop7⟩; obtain ⟨y0, y1, y2, y3, y4, y5, y6, y7, y8, y9⟩ := arr10p hop7.2.1.1; have yq := hop7.2.1.2; have yq0 : w7.cell? ⟨B0, 0, none⟩ = some (.int .i64 s) := cell_of_row _ _ 0 _ _ _ yq; have yq1 : w7.cell? ⟨B0, 1, none⟩ = some (.int .i64 t) := cell_of_row _ _ 1 _ _ _ yq; clear yq))
            | (go_at_call 45; ((with_reducible refine (GL.out _ ?hl).mono ?_); (case hl => first | exact HO5.out | exact HO5.out.drew); rintro r w6 ⟨x, F5, rfl, hop6, hx6, hxk6, hc6⟩; have hcx : okLG (N + j * (c + 2)) x.L := (by rcases hc6 with ⟨g1, g2⟩ | ⟨g1, g2, g3⟩ <;> first | exact HOK1.out _ (List.mem_map.2 ⟨x, (getZ_some g1).1, rfl⟩) | (rw [g2]; exact okLG_mono (newP_ok HG.out) (Nat.zero_le _))); obtain ⟨x0, x1, x2, x3, x4, x5, x6, x7, x8, x9⟩ := arr10p hop6.2.1.1; have xq := hop6.2.1.2; have xq0 : w6.cell? ⟨B0, 0, none⟩ = some (.int .i64 s) := cell_of_row _ _ 0 _ _ _ xq; have xq1 : w6.cell? ⟨B0, 1, none⟩ = some (.int .i64 t) := cell_of_row _ _ 1 _ _ _ xq; clear xq)))
          all_goals
            clear x0 x1 x2 x3 x4 x5 x6 x7 x8 x9 y0 y1 y2 y3 y4 y5 y6 y7 y8 y9 xq0 xq1 yq0 yq1
            go_wp2
            exact ⟨⟨j + 1, by omega, by go_num, HNx.out wr _ _ hop7.1 HOp.out (HEq.out _ HO5.out.1.1 x F5 _ hop6.1.1 hx6 hxk6 hc6)⟩, by simp [intOf]; omega⟩
    · obtain rfl : j = len := by omega
      have HJ := Lib.hid hJ
      clear hJ
      go_wp2
      exact bodyPost_end (results_none rfl _ _ _) rfl ⟨⟨_, rfl⟩, HE.out _ HJ.out⟩

end Go.Proofs.Ytdncdlbhgaehmaa

/- The logs of a ledger, handed out in the order of their numbers. -/
namespace Go.Proofs.Ytdncdlbhgaehmaa
open Go.RowKit Go.Shelf Go.Maps Go.Sort
set_option linter.unusedVariables false
attribute [local go_sem] Oper.semAt_some wide_fn wide_round_fn

theorem lsorts (m : Nat) : AnyZI.SortsIn Try.prog Try.sortedI_ren Fence.wide m :=
  ⟨fun blk off cap ss W hH hblk hsz => callsIn_wide.2 (AnyM.slices_Sort_int Try.sortI blk off cap ss W hH hblk hsz),
   fun p cap W => callsIn_wide.2 (AnyM.slices_Sort_int_none Try.sortI p cap W)⟩
theorem lkeys (mb : Option Nat) (W : World) : CallsIn Fence.wide 5 Try.prog 81 #[.map mb] W fun e w' => e = .returned (.func (.func 106) #[] #[.pointer (some ⟨W.heap.size, 0, none⟩)]) ∧ w' = W.alloc (.cells #[.map mb] 87) :=
  AnyZI.keys_in Try.keysL Fence.wide 5 trivial rfl mb W
theorem lsorted {H : Type} (b nn : Nat) (D0 : DataW H) (R : Value → Option (DataW H × List MemPlace)) (w : World) (hown : w.ownsMap Try.prog 3 R b nn D0) (hmax : Maps.size D0 ≤ maxLen) (hbytes : Maps.size D0 * 8 ≤ 140737488355328) :
    CallsIn Fence.wide 5 Try.prog 80 #[.func (.func 106) #[] #[.pointer (some ⟨w.heap.size, 0, none⟩)]] (w.alloc (.cells #[.map (some b)] 87)) fun e w' => ∃ (v : Value) (ss : List Int), e = .returned v ∧ ss.Perm (intKeys D0) ∧
      w'.ownsRow (w.alloc (.cells #[.map (some b)] 87)).heap.size 3 1 v ss.length ((ss.mergeSort (fun x y => decide (x ≤ y))).map encZ) ∧ (v = .slice none 0 0 ↔ ss = []) ∧ Below (w.alloc (.cells #[.map (some b)] 87)).heap.size (w.alloc (.cells #[.map (some b)] 87)) w' := by
  have hbl := hown.lt
  have hseq : SeqGives Fence.wide 2 Try.prog 106 #[.pointer (some ⟨w.heap.size, 0, none⟩)] encZ (fun ss => ss.Perm (intKeys D0)) (Maps.size D0) (w.alloc (.cells #[.map (some b)] 87)) :=
    AnyZI.keys_gives (ρ := Try.keysL_ren) { Try.keysL with } Fence.wide _ trivial rfl (by omega) w.heap.size b nn D0 _ (by simp) (by simp) (by
      obtain ⟨es, clock, hb, Ft, hs, hD⟩ := hown
      exact ⟨es, clock, (Below.heap_alloc _ _ b hbl).trans hb, Ft, hs, hD⟩)
  exact AnyZI.sorted_in Try.sortedI Fence.wide 5 trivial trivial trivial trivial rfl (by omega) (lsorts _) (enters_of Try.func105 (by kernel_rfl) rfl) 106 #[.pointer (some ⟨w.heap.size, 0, none⟩)] trivial (enters_of Try.func106 (by kernel_rfl) rfl) _ _ hmax hbytes _ hseq
theorem lids_sorted {F : List LE} (hr : RisZ LE.k F) {ss : List Int} (hp : ss.Perm (intKeys (lmap F))) : (ss.mergeSort (fun x y => decide (x ≤ y))).map encZ = F.map (fun x => Value.int .i64 x.k) ∧ ss.length = F.length := by
  have e : intKeys (lmap F) = F.map fun x => x.k := by unfold lmap intKeys; dsimp only; rw [List.map_map]; rfl
  rw [e] at hp
  constructor
  · have hs : (F.map fun x => x.k).Pairwise (fun x y => decide (x ≤ y) = true) := by
      rw [List.pairwise_map]
      exact hr.imp fun {a b} h => by simp; exact Int.le_of_lt h
    have h1 : ss.mergeSort (fun x y => decide (x ≤ y)) = F.map fun x => x.k := by
      refine List.Perm.eq_of_pairwise (le := fun x y => decide (x ≤ y)) ?_ (List.pairwise_mergeSort (fun a b c h1 h2 => by simp at *; omega) (fun a b => by simp; omega) ss) hs ((List.mergeSort_perm ss _).trans hp)
      intro a b _ _ h1 h2
      simp at h1 h2; omega
    rw [h1, List.map_map]; rfl
  · rw [hp.length_eq, List.length_map]
theorem llmap_rd {B : Nat} {S : Nat → Prop} {W W' : World} {P : Program} {k : TypeId} {R : Value → Option (DataW Value × List MemPlace)} {b n : Nat} {D : DataW Value} (h : W.ownsMap P k R b n D) (hR : Rd B S W W') (hS : S b) : W'.ownsMap P k R b n D := by
  obtain ⟨es, clock, h1, r⟩ := h
  exact ⟨es, clock, hR.block _ _ h1 (.inl hS), r⟩
theorem llook_map {W : World} {m n : Nat} {F : List LE} (h : W.ownsMap Try.prog 3 plcElem m n (lmap F)) {x : LE} (hx : getZ LE.k F x.k = some x) (hw : (Lit.int .i64 x.k).wf = true) :
    (Instr.lookup 87 (.map (some m)) (.int .i64 x.k) false).run Try.prog W = .ok x.val W := by
  obtain ⟨v, ps, hrun, hv⟩ := h.lookup lawP Try.underlying87 (zeroLog W) (zd := .held (.pointer none)) (zp := []) rfl (Maps.keyOf_int_mk Try.underlying3 hw)
  rw [lmap_at, hx] at hv
  rw [← plcElem_some hv]; exact hrun
theorem lrow_id {W : World} {B : Nat} {e : TypeId} {n : Nat} {v : Value} {F : List LE} (h : W.ownsRow B e 1 v n (F.map fun x => Value.int .i64 x.k)) {k : Nat} (hk : k < F.length) : ∃ g cap, v = .slice (some ⟨g, 0, none⟩) n cap ∧ B ≤ g ∧ g < W.heap.size ∧ W.cell? ⟨g, k, none⟩ = some (.int .i64 F[k].k) := by
  have hl : F.length = n := by have := h.1; simpa using this
  rcases h.2 with ⟨hv, h0⟩ | ⟨g, cap, cur, hv, hb, hg, hle, hcm, hcs, ht⟩
  · omega
  · refine ⟨g, cap, hv, hb, (Array.getElem?_eq_some_iff.1 hg).1, ?_⟩
    rw [Lib.cell_of_heap hg]
    have : (cur.toList.take (n * 1))[k]? = some (.int .i64 F[k].k) := by rw [ht]; simp [hk]
    rw [List.getElem?_take] at this
    split at this
    · simpa [Array.getElem?_toList] using this
    · cases this
theorem own_sliceLg {W : World} {B : Nat} {e : TypeId} {sz n : Nat} {v : Value} {xs : List Value} (h : W.ownsRow B e sz v n xs) : ∃ a cap, v = .slice a n cap := by
  rcases h.2 with ⟨rfl, rfl⟩ | ⟨g, cap, _, rfl, _⟩
  · exact ⟨none, 0, rfl⟩
  · exact ⟨_, cap, rfl⟩
set_option maxRecDepth 100000 in
set_option maxHeartbeats 1000000 in
theorem lorder_iter {W0 : World} {d m : Nat} {F : List LE} (h : LedAt W0 d m F) (hF : F.length ≤ 1000000) (hr : RisZ LE.k F) (hid : ∀ x ∈ F, 0 ≤ x.k ∧ x.k ≤ 999) (Bd : Nat) (S V : Nat → Prop) (w0 : World) (hw : Below W0.heap.size W0 w0)
    (hb : w0.cell? ⟨Bd, 0, none⟩ = some (.pointer (some ⟨d, 0, none⟩))) (hS : S Bd ∧ S d ∧ S m) (hV : ¬ V Bd ∧ ¬ V d ∧ ¬ V m) (hVl : ∀ k, V k → k < w0.heap.size) (hbl : Bd < w0.heap.size) :
    IterV Try.prog 79 #[.pointer (some ⟨Bd, 0, none⟩)] (fun x : LE => #[x.val]) F S V w0 := by
  intro l J Jx W hW hlw hlW hJs _ hY h0
  have hmW := llmap_rd (pown_frame h.map (FrameT.below (T := fun _ => False) hw) id) hW hS.2.2
  have hdW := hW.block _ _ ((FrameT.below (T := fun _ => False) hw).get h.box id) (.inl hS.2.1)
  have c0 : W.cell? ⟨d, 0, none⟩ = some (.map (some m)) := cell_of_row _ _ 0 _ _ _ hdW
  have cb := hW.cell hb hS.1
  have hsize : Maps.size (lmap F) ≤ maxLen ∧ Maps.size (lmap F) * 8 ≤ 140737488355328 := by rw [lmap_size]; unfold maxLen; omega
  have HSz := Lib.hid hsize
  have HN := Lib.hid (fun ss hp => lids_sorted hr (ss := ss) hp)
  have HMW := Lib.hid hmW
  have hdl := heap_lt h.box
  have hml := h.map.lt
  have hw0 := hw.size
  have hWs := hW.size
  have HL := Lib.hid (And.intro hdl (And.intro hml (And.intro hbl (And.intro hw0 (And.intro hWs (And.intro hlw hlW))))))
  have HSelf := Lib.hid (fun x (hx : x ∈ F) => (And.intro (risZ_get hr hx) (hid x hx)))
  have HC0 := Lib.hid c0
  have HCB := Lib.hid cb
  clear hsize hmW hdW hdl hml hbl hw0 hWs
  have hfK : Fence.wide.fn 81 := trivial
  have hfS : Fence.wide.fn 80 := trivial
  refine callsIn_of_wp Try.func79 rfl trivial ?_ rfl
  simp only [Try.ntmps79, List.size_toArray, List.length_cons, List.length_nil, Nat.reduceAdd, Nat.reduceSub, Array.replicate_succ, Array.replicate_zero, List.push_toArray, List.append_toArray, List.nil_append, List.cons_append]
  gi_wp2_with (first
    | (gi_at_call 81; refine (callsIn_wide_n (lkeys _ _)).mono ?_; rintro e w' ⟨rfl, rfl⟩)
    | (gi_at_call 80; refine (callsIn_wide_n (lsorted m F.length (lmap F) plcElem W HMW.out HSz.out.1 HSz.out.2)).mono ?_; rintro e w5 ⟨v, ss, rfl, hSs, hrow, -, hb5⟩; rw [(HN.out ss hSs).1, (HN.out ss hSs).2] at hrow; obtain ⟨a5, cap5, rfl⟩ := own_sliceLg hrow))
  have hz5 := hb5.size
  rw [World.size_alloc] at hz5
  have hbW5 : Below W.heap.size W w5 := bel2 (bel_alloc (Below.refl _ _) _) hb5
  have H0 := Lib.hid (h0 w5 hbW5)
  have HB5 := Lib.hid hbW5
  have HZ := Lib.hid hz5
  have HR := Lib.hid hrow
  clear hrow hb5 hbW5 hz5 c0 cb h0 hSs
  gi_loopw [12] (fun q wr => ∃ k : Nat, k ≤ F.length ∧ q = .int .i64 k ∧ J w5.heap.size (F.take k) wr ∧ Rd W.heap.size (fun k => (k < w5.heap.size ∧ ¬ V k) ∧ k ≠ l) w5 wr) (fun q _ => F.length - (intOf q).toNat)
  case atStart => exact ⟨0, by omega, rfl, H0.out, Rd.refl _ _ _⟩
  case round =>
    obtain ⟨k, hk, rfl, hJ, hR⟩ := hrel
    obtain ⟨l1, l2, l3, l4, l5, l6, l7⟩ := HL.out
    have z5 := HZ.out
    have old : ∀ x, x < w0.heap.size → ¬ V x → ((x < w5.heap.size ∧ ¬ V x) ∧ x ≠ l) := fun x hx hv => ⟨⟨by omega, hv⟩, by omega⟩
    have hm := llmap_rd (pown_frame HMW.out (FrameT.below (T := fun _ => False) HB5.out) id) hR (old m (by omega) hV.2.2)
    have c0 : wr.cell? ⟨d, 0, none⟩ = some (.map (some m)) := hR.cell ((FrameT.below (T := fun _ => False) HB5.out).cell HC0.out id) (old d (by omega) hV.2.1)
    have cb : wr.cell? ⟨Bd, 0, none⟩ = some (.pointer (some ⟨d, 0, none⟩)) := hR.cell ((FrameT.below (T := fun _ => False) HB5.out).cell HCB.out id) (old Bd (by omega) hV.1)
    by_cases hlt : k < F.length
    · obtain ⟨g, cap, hv, hg1, hg2, hcg⟩ := lrow_id HR.out hlt
      rw [World.size_alloc] at hg1
      cases hv
      have hcg' := hR.cell hcg ⟨⟨hg2, fun hv => by have := hVl g hv; omega⟩, (show g ≠ l by omega)⟩
      obtain ⟨hs1, hs2⟩ := HSelf.out F[k] (List.getElem_mem hlt)
      have hrun := llook_map hm hs1 (by simp [Lit.wf, IntKind.min, IntKind.max, IntKind.signed, IntKind.bits]; omega)
      have HX := Lib.hid (show F = F.take k ++ F[k] :: F.drop (k + 1) by rw [List.getElem_cons_drop hlt, List.take_append_drop])
      have HT := Lib.hid (show F.take (k + 1) = F.take k ++ [F[k]] from List.take_succ_eq_append_getElem hlt)
      have hlti : (k : Int) < (F.length : Int) := by omega
      obtain ⟨fn, tmps, assign, body, hy, hR1⟩ := hY w5.heap.size (F.take k) F[k] (F.drop (k + 1)) wr (by omega) HX.out hJ
      generalize F[k] = x at *
      obtain ⟨d', m', L'⟩ := x
      dsimp only [LE.val, LE.k] at *
      clear hm hs1 hs2 old hg1 hg2 hcg
      gi_wp2
      refine (roundIn_wide_n hR1).mono ?_
      rintro e W3 (⟨rfl, hJ3, hk3⟩ | ⟨rfl, hJx3⟩)
      · clear hrun c0 cb hcg' hy hR1
        gi_wp2
        go_roundw
        case rel => exact ⟨k + 1, by omega, by go_num, by rw [HT.out]; exact hJ3, hR.trans hk3⟩
        case measure => simp [intOf]; omega
      · clear hrun c0 cb hcg' hy hR1
        gi_wp2
        refine bodyPost_ret (results_none rfl _ _ _) rfl ?_
        exact ⟨⟨_, rfl⟩, .inr ⟨_, _, _, HX.out, hJx3⟩⟩
    · obtain rfl : k = F.length := by omega
      rw [List.take_of_length_le (by omega)] at hJ
      clear hm c0 cb old
      gi_wp2
      refine bodyPost_end (results_none rfl _ _ _) rfl ?_
      exact ⟨⟨_, rfl⟩, .inl ⟨_, by omega, hJ⟩⟩

end Go.Proofs.Ytdncdlbhgaehmaa

/- (*Ledger).Groups: the groups, each with entries of its own, in the order of their numbers. -/
namespace Go.Proofs.Ytdncdlbhgaehmaa
open Go.RowKit Go.Shelf
set_option linter.unusedVariables false
attribute [local go_sem] Oper.semAt_some wide_fn wide_round_fn

/-- A group in memory. -/
structure GVL where
  g : GM
  a : Option Addr
  c : Nat
def inGL (x : GVL) (k : Nat) : Prop := inBlkE x.a x.g.l.length k
theorem lorder_any (d : Nat) (W : World) : Calls Try.prog 51 #[.pointer (some ⟨d, 0, none⟩)] W fun e w' => e = .returned (.func (.func 79) #[] #[.pointer (some ⟨W.heap.size, 0, none⟩)]) ∧ w' = W.alloc (.cells #[.pointer (some ⟨d, 0, none⟩)] 53) := by
  go_enter Try.func51, Try.ntmps51
  go_wp2
  go_ret
  exact ⟨rfl, rfl⟩
def lvCells (L : List GVL) : List Value := L.flatMap fun x => (x.g.arr x.a x.c).toList
theorem lvCells_snoc (L : List GVL) (x : GVL) : lvCells (L ++ [x]) = lvCells L ++ (x.g.arr x.a x.c).toList := by simp [lvCells]
theorem infoGrpL : (Try.prog.info? 65).map (fun i => (i.zero, i.size, i.bytes)) = some (some (.agg #[.int .i64 0, .int .i64 0, .int .i64 0, .int .i64 0, .int .i64 0, .int .i64 0, .slice none 0 0]), 7, 72) := by kernel_rfl
theorem lnews_new (w : World) (e : TypeId) (news : List Value) : ∀ j u, news[j]? = some u → (w.alloc (.cells news.toArray e)).cell? ((⟨w.heap.size, 0, none⟩ : Addr).add j) = some u := fun j u h =>
  World.news_of_block (heap_alloc_new w _) j u (by simpa using h)
theorem ownsRow_keptL {W : World} {base : Nat} {e : TypeId} {size : Nat} {v : Value} {k : Nat} {xs : List Value} (h : W.ownsRow base e size v k xs) {D : Nat} {o : Obj} (hD : W.heap[D]? = some o) (hc : o.isCells = false) (o' : Obj) : (W.putObj D o').ownsRow base e size v k xs := by
  refine ⟨h.1, ?_⟩
  rcases h.2 with h2 | ⟨g, cap, cur, hv, hg, hh, r⟩
  · exact .inl h2
  · refine .inr ⟨g, cap, cur, hv, hg, (World.putObj_heap_other (fun e => ?_)).trans hh, r⟩
    rw [e, hD] at hh
    cases hh
    cases hc
theorem wpIn_of_heldL {F : Fence} {n : Nat} {P : Program} {id : Nat} {Q : Exit → Act → World → Prop} {a : Act} {w : World} {l : List Oper} {S : World → Prop} (hm : P.follows .mixedOrders = true) (hd : l.all (fun o => !isDefer o.op) = true) (hF : ∃ ro, F = { Fence.wide with round := ro }) (hS : S w.drew)
    (h : S w.drew → wpAnyH P .any l.toArray (onlyNormal Q) S l.toArray.size (Array.replicate l.toArray.size false) a w.drew) : (Code.region id l.toArray true).wpIn F n P Q a w := by
  refine wpIn_region_any hm (anyIn_of_plain hF (fun i o ho => ?_) _ _ _ _ (wpAny_of_held _ _ _ _ (h hS)))
  have hmem : o ∈ l := by
    simp only [List.getElem?_toArray] at ho
    exact List.mem_of_getElem? ho
  have := List.all_eq_true.1 hd o hmem
  simpa using this
theorem app_allL {w W w2 : World} {t e : TypeId} {sz B0 B1 n k L : Nat} {v v' : Value} {xs ys : List Value} {tmp : Obj} (hte : t ≠ e) (hB : Below w.heap.size w W) (hBB : w.heap.size < B1) (hs : B1 ≤ W.heap.size) (hv : Boxed W w.heap.size t v) (hrow : W.ownsRow B1 e sz v n xs)
    (hown' : w2.ownsRow B1 e sz v' k ys) (hgrow : (W.alloc tmp).grownBy w2 v.ownBlock) :
    Below w.heap.size w w2 ∧ Boxed w2 w.heap.size t v ∧ Below w.heap.size w (w2.setCell ⟨w.heap.size, 0, none⟩ v') ∧ Boxed (w2.setCell ⟨w.heap.size, 0, none⟩ v') w.heap.size t v' ∧ (w2.setCell ⟨w.heap.size, 0, none⟩ v').ownsRow B1 e sz v' k ys ∧ Rd B0 (fun j => (j < B1 ∧ ¬ (j = w.heap.size)) ∧ j ≠ L) W (w2.setCell ⟨w.heap.size, 0, none⟩ v') := by
  obtain ⟨h1, h2, h3, h4, h5⟩ := boxed_appended (W := W) (n₀ := w.heap.size) (base := B1) (B0 := B0) (S := fun j => (j < B1 ∧ ¬ (j = w.heap.size)) ∧ j ≠ L) hv hte hrow (by omega) hs (Nat.le_refl _) (fun h => h.1.2 rfl) (fun j hj h => by have := h.1.1; omega) hown' hgrow
  exact ⟨(bel_alloc hB tmp).grown hgrow (bel_alloc hB tmp).size (fun j hj => by have := ownBlock_ge hrow hj; omega), h1, hB.trans h5, h2, h3, h4⟩
/-- The box q holds a slice of groups, in blocks from B1 on; their entries lie elsewhere; nothing that lay in w has turned. -/
def lallV (w : World) (q B1 : Nat) (pre : List GM) (v : Value) (W : World) : Prop := Boxed W q 62 v ∧ (∃ Gs : List GVL, Gs.map GVL.g = pre ∧ (W.ownsRow B1 65 7 v pre.length (lvCells Gs) ∧ ∀ x, x ∈ Gs → HasG W x.a x.g ∧ (x.g.l.length ≤ x.c ∧ ∀ k, inGL x k → B1 ≤ k ∧ some k ≠ v.ownBlock))) ∧ Below w.heap.size w W ∧ B1 ≤ W.heap.size
def lallI (w : World) (q B1 : Nat) (pre : List GM) (W : World) : Prop := ∃ v, lallV w q B1 pre v W
theorem hasG_stabL {B : Nat} {a : Option Addr} {g : GM} : Stab B (fun _ => False) (fun W => HasG W a g) := fun W W' h hm => by
  refine ⟨h.1, h.2.1, h.2.2.1, fun h0 => ?_⟩
  obtain ⟨b, off, e, hb, hc⟩ := h.2.2.2 h0
  exact ⟨b, off, e, Nat.lt_of_lt_of_le hb hm.size, fun j hj => Stab.cell (B := B) (T := fun _ => False) id W W' (hc j hj) hm⟩
theorem lallV_stab {w : World} {q B B1 : Nat} {pre : List GM} {v : Value} (h : w.heap.size ≤ B) : Stab B (fun _ => False) (lallV w q B1 pre v) :=
  (Stab.boxed id).and ((Stab.ex fun Gs => (Stab.pure _).and ((Stab.ownsRow (fun _ h => h.elim)).and (Stab.all fun x => Stab.imp fun _ => hasG_stabL.and (Stab.pure _)))).and ((Stab.below (Nat.le_refl _) h (fun _ h => h.elim)).and Stab.size))
theorem lallI_stab {w : World} {q B B1 : Nat} {pre : List GM} (h : w.heap.size ≤ B) : Stab B (fun _ => False) (lallI w q B1 pre) := Stab.ex fun v => lallV_stab h

theorem ownBlock_ltL {W : World} {base : Nat} {e : TypeId} {size : Nat} {v : Value} {k : Nat} {xs : List Value} (h : W.ownsRow base e size v k xs) {j : Nat} (hj : some j = v.ownBlock) : base ≤ j ∧ j < W.heap.size := by
  rcases h.2 with ⟨rfl, _⟩ | ⟨g, cap, cur, rfl, hb, hg, _⟩
  · simp [Value.ownBlock] at hj
  · obtain rfl : j = g := by simpa [Value.ownBlock] using hj
    exact ⟨hb, (Array.getElem?_eq_some_iff.1 hg).1⟩
theorem own_baseL {W : World} {B B' : Nat} {e : TypeId} {sz n : Nat} {v : Value} {xs : List Value} (h : W.ownsRow B e sz v n xs) (hB : B' ≤ B) : W.ownsRow B' e sz v n xs := by
  refine ⟨h.1, ?_⟩
  rcases h.2 with h2 | ⟨g, cap, cur, hv, hb, r⟩
  · exact .inl h2
  · exact .inr ⟨g, cap, cur, hv, Nat.le_trans hB hb, r⟩
theorem hasG_putL {W : World} {a : Option Addr} {g : GM} (h : HasG W a g) {D : Nat} {o : Obj} (hD : W.heap[D]? = some o) (hc : o.isCells = false) (o' : Obj) : HasG (W.putObj D o') a g := by
  refine ⟨h.1, h.2.1, h.2.2.1, fun h0 => ?_⟩
  obtain ⟨b, off, e, hb, hx⟩ := h.2.2.2 h0
  refine ⟨b, off, e, by simpa using hb, fun j hj => ?_⟩
  have hne : b ≠ D := fun e => by
    have := hx j hj
    rw [e] at this
    cases o with
    | cells => cases hc
    | _ => simp [World.cell?, hD] at this
  exact (World.cell?_of_block (World.putObj_heap_other hne)).trans (hx j hj)
/-- A group is appended to the row. -/
theorem lall_step {w W w2 w4 : World} {B0 B1 L n : Nat} {pre : List GM} {v : Value} {Gs : List GVL} {tmp : Obj} {g' cap' : Nat} (hB : Below w.heap.size w W) (hBB : w.heap.size < B1) (hs : B1 ≤ W.heap.size) (hv : Boxed W w.heap.size 62 v)
    (hGs : Gs.map GVL.g = pre) (hrow : W.ownsRow B1 65 7 v pre.length (lvCells Gs)) (hall : ∀ x, x ∈ Gs → HasG W x.a x.g ∧ (x.g.l.length ≤ x.c ∧ ∀ k, inGL x k → B1 ≤ k ∧ some k ≠ v.ownBlock)) (hB2 : Below W.heap.size W w2) (x : GVL) (hG : HasG w2 x.a x.g) (hle : x.g.l.length ≤ x.c) (hnew : ∀ k, inGL x k → W.heap.size ≤ k)
    (hown : w4.ownsRow B1 65 7 (.slice (some ⟨g', 0, none⟩) n cap') (pre.length + 1) (lvCells Gs ++ (x.g.arr x.a x.c).toList)) (hgrow : (w2.alloc tmp).grownBy w4 v.ownBlock) (hlies : v.ownBlock = some g' ∨ g' = (w2.alloc tmp).heap.size) :
    Boxed w4 w.heap.size 62 v ∧ Rd B0 (fun j => (j < B1 ∧ ¬ (j = w.heap.size)) ∧ j ≠ L) W (w4.setCell ⟨w.heap.size, 0, none⟩ (.slice (some ⟨g', 0, none⟩) n cap')) ∧ lallV w w.heap.size B1 (pre ++ [x.g]) (.slice (some ⟨g', 0, none⟩) n cap') (w4.setCell ⟨w.heap.size, 0, none⟩ (.slice (some ⟨g', 0, none⟩) n cap')) := by
  have hv2 : Boxed w2 w.heap.size 62 v := (hB2.block _ (heap_lt hv)).trans hv
  have hrow2 := ownsRow_below (n := 0) hrow hB2
  obtain ⟨a1, a2, a3, a4, a5, a6⟩ := app_allL (B0 := B0) (L := L) (by decide) (bel2 hB hB2) hBB (Nat.le_trans hs hB2.size) hv2 hrow2 hown hgrow
  have hFg : FrameT (fun k => some k = v.ownBlock) w2 w4 := (FrameT.below (bel_alloc (Below.refl w2.heap.size w2) tmp)).trans ⟨hgrow.os, hgrow.tape, hgrow.output, hgrow.size, fun k hk hT => hgrow.block k hk hT⟩
  have hF : FrameT (fun k => some k = v.ownBlock ∨ k = w.heap.size) w2 (w4.setCell ⟨w.heap.size, 0, none⟩ (.slice (some ⟨g', 0, none⟩) n cap')) := (hFg.mono fun _ h => .inl h).trans ((FrameT.setCell w4 w.heap.size 0 _).mono fun _ h => .inr h)
  have hvb : ∀ k, some k = v.ownBlock → B1 ≤ k ∧ k < W.heap.size := fun k hk => ownBlock_ltL hrow hk
  have hnv : ∀ k, k < w2.heap.size → some k ≠ v.ownBlock → some k ≠ (Value.slice (some ⟨g', 0, none⟩) n cap').ownBlock := fun k hk h1 e => by
    have e' : k = g' := Option.some.inj e
    rcases hlies with h | h
    · exact h1 (by rw [e', h])
    · rw [h, World.size_alloc] at e'; omega
  refine ⟨a2, (Rd.below hB2).trans a6, a4, ⟨Gs ++ [x], by rw [List.map_append, hGs]; rfl, by rw [List.length_append, lvCells_snoc]; exact a5, fun y hy => ?_⟩, a3, by have h1 := hF.size; have h2 := hB2.size; omega⟩
  rcases List.mem_append.1 hy with hy | hy
  · obtain ⟨y1, y2, y3⟩ := hall y hy
    refine ⟨hasG_p (y1.below hB2) hF (fun k hk h => ?_), y2, fun k hk => ⟨(y3 k hk).1, hnv k (inBlkE_lt (y1.below hB2).2 hk) (y3 k hk).2⟩⟩
    rcases h with h | h
    · exact (y3 k hk).2 h
    · have := (y3 k hk).1; omega
  · rw [List.mem_singleton] at hy
    subst hy
    have hkv : ∀ k, inGL y k → some k ≠ v.ownBlock := fun k hk e => by have := hnew k hk; have := (hvb k e).2; omega
    refine ⟨hasG_p hG hF (fun k hk h => ?_), hle, fun k hk => ⟨by have := hnew k hk; omega, hnv k (inBlkE_lt hG.2 hk) (hkv k hk)⟩⟩
    rcases h with h | h
    · exact hkv k hk h
    · have := hnew k hk; omega
/-- What All tells. -/
def LAllPost (w : World) (L : List GM) (e : Ending) (w' : World) : Prop := ∃ v Gs, e = .returned v ∧ (Gs : List GVL).map GVL.g = L ∧ w'.ownsRow w.heap.size 65 7 v L.length (lvCells Gs) ∧ (∀ x, x ∈ Gs → HasG w' x.a x.g ∧ x.g.l.length ≤ x.c) ∧ Below w.heap.size w w'
set_option maxRecDepth 100000 in
set_option maxHeartbeats 1000000 in
theorem lall_any {w : World} {d m : Nat} {F : List LE} (h : LedAt w d m F) (hF : F.length ≤ 1000) :
    Calls Try.prog 30 #[.pointer (some ⟨d, 0, none⟩)] w (LAllPost w (F.map fun x => x.L.g)) := by
  obtain ⟨i0, hi, hz0, hz1, hz2⟩ := info_parts infoGrpL
  have hmx : Try.prog.follows .mixedOrders = true := by kernel_rfl
  refine (callsIn_wide (n := 9)).1 ?_
  refine callsIn_of_wp_marks Try.func30 rfl trivial ?_ rfl
  simp only [Try.ntmps30, List.size_toArray, List.length_cons, List.length_nil, Nat.reduceAdd, Nat.reduceSub, Array.replicate_succ, Array.replicate_zero, List.push_toArray, List.append_toArray, List.nil_append, List.cons_append]
  have bO := Boxed.new w 62 (.slice none 0 0)
  have hB0 : Below w.heap.size w (w.alloc (.cells #[.slice none 0 0] 62)) := (Below.refl _ w).alloc (Nat.le_refl _) _
  have hsz : (w.alloc (.cells #[.slice none 0 0] 62)).heap.size = w.heap.size + 1 := by simp
  have HD := Lib.hid h
  have HB0 := Lib.hid hB0
  have HbO := Lib.hid bO
  have HSz := Lib.hid hsz
  clear h hB0 bO hsz
  gi_wp2_with (gi_at_call 51; refine (callsIn_wide.2 (lorder_any d _)).mono ?_; rintro e w1 ⟨rfl, rfl⟩)
  obtain ⟨w1, hw1⟩ : ∃ w1, w1 = (w.alloc (.cells #[.slice none 0 0] 62)).alloc (.cells #[.pointer (some ⟨d, 0, none⟩)] 53) := ⟨_, rfl⟩
  rw [← hw1]
  have hB1 : Below w.heap.size w w1 := by rw [hw1]; exact bel_alloc HB0.out _
  have bO1 : Boxed w1 w.heap.size 62 (.slice none 0 0) := by rw [hw1]; exact HbO.out.alloc _
  have cb : w1.cell? ⟨w.heap.size + 1, 0, none⟩ = some (.pointer (some ⟨d, 0, none⟩)) := by
    have := (Boxed.new (w.alloc (.cells #[.slice none 0 0] 62)) 53 (.pointer (some ⟨d, 0, none⟩))).cell
    rw [hw1]; rwa [World.size_alloc] at this
  have hsz1 : w1.heap.size = w.heap.size + 2 := by rw [hw1]; simp
  clear hw1
  have hdl := heap_lt HD.out.box
  have hml := HD.out.map.lt
  have HI := Lib.hid (lorder_iter HD.out (by omega) HD.out.ris HD.out.ids (w.heap.size + 1) (fun _ => True) (fun k => k = w.heap.size) w1 hB1 cb ⟨trivial, trivial, trivial⟩ ⟨by omega, by omega, by omega⟩ (fun k hk => by omega) (by omega))
  clear cb
  refine range_outerV rfl (enters_of Try.func79 (by kernel_rfl) rfl) HI.out (fun _ => rfl)
    (fun B1 pre W => lallI w w.heap.size B1 (pre.map fun x => x.L.g) W) (fun _ _ _ => False) (fun _ _ => lallI_stab hB1.size) (fun _ _ => Stab.pure _)
    (fun W1 hb => ⟨_, boxed_below bO1 hb (by omega), ⟨[], rfl, World.ownsRow_nil _ _ _ _, fun x hx => by cases hx⟩, hB1.trans (hb.mono hB1.size), Nat.le_refl _⟩) ?hr ?hd (fun _ _ _ _ _ _ h => h.elim)
  case hr =>
    rintro B1 L pre x suf W hBB hx hl' hi1 hrec
    have hpl : pre.length < 1000 := by have h1 := congrArg List.length hx; simp at h1; omega
    have hxF : x ∈ F := by rw [hx]; simp
    obtain ⟨xd, xm, ⟨⟨id, fi, te, ht, hvv, hc, gl⟩, xF⟩⟩ := x
    dsimp only [LE.val] at *
    obtain ⟨v, hv⟩ := hi1
    gi_wp2
    refine rdThen_mk (fun W' => lallV w w.heap.size B1 (pre.map fun x => x.L.g) v W') (lallV_stab hB1.size) hv (Rd.refl _ _ _) ?_
    clear hv hrec W
    rintro W ⟨hv, ⟨Gs, hGs, hrow, hall⟩, hB, hs⟩ hrec
    have hLS := (HD.out.below hB).logs _ hxF
    have HLS := Lib.hid (fun W' (hB' : Below W.heap.size W W') => hLS.below hB')
    have HGs := Lib.hid hGs
    have HALL := Lib.hid hall
    have HV := Lib.hid hv
    have HROW := Lib.hid hrow
    have HB := Lib.hid hB
    have HPL := Lib.hid (show (pre.map fun x => x.L.g).length = pre.length from List.length_map _)
    have GO := Lib.hid (fun W' (hB' : Below W.heap.size W W') => (show Calls Try.prog 52 #[.pointer (some ⟨xd, 0, none⟩)] W' (fun e w' => ∃ a' c', e = .returned (.agg #[.int .i64 id, .int .i64 fi, .int .i64 te, .int .i64 ht, .int .i64 hvv, .int .i64 hc, .slice a' gl.length c']) ∧ HasG w' a' ⟨id, fi, te, ht, hvv, hc, gl⟩ ∧ gl.length ≤ c' ∧ Below W'.heap.size W' w' ∧ ∀ k, inBlkE a' gl.length k → W'.heap.size ≤ k) from by
      obtain ⟨_, a9, c9, h9⟩ := HLS.out W' hB'
      exact pgroupN_any h9.g))
    have hcd : W.drew.cell? ⟨w.heap.size, 0, none⟩ = some v := hv.cell
    have hfd := hv.frozen
    clear hx hxF hall hGs hrow hB hLS hrec
    gi_wp2
    refine wpIn_of_heldL (S := fun _ => True) hmx (by kernel_rfl) ⟨_, rfl⟩ trivial (fun hHeld => ?_)
    refine wpAnyH_take (i := 1) (v := .pointer (some ⟨xd, 0, none⟩)) rfl (by kernel_rfl) (by kernel_rfl) (by kernel_rfl) (fun _ _ _ h => absurd h.1 (by simp)) (Or.inl ⟨by rfl, fun w hSw => by go_simp⟩) hHeld ?_
    try simp only [Act.put, List.getElem_toArray, List.getElem_cons_succ, List.getElem_cons_zero, List.setIfInBounds_toArray, List.set_cons_zero, List.set_cons_succ]
    refine wpAnyH_ready (rs := [0, 2]) (by kernel_rfl) (by simp) ?_
    refine AllReadyH.cons rfl (fun K hK => ?_) (AllReadyH.cons rfl (fun K hK => ?_) AllReadyH.nil)
    · go_simp
      refine hK.out _ _ trivial (fun hHeld => ?_)
      clear hK K
      try simp only [Act.put, List.getElem_toArray, List.getElem_cons_succ, List.getElem_cons_zero, List.setIfInBounds_toArray, List.set_cons_zero, List.set_cons_succ]
      refine wpAnyH_ready (rs := [2]) (by kernel_rfl) (by simp) ?_
      refine AllReadyH.cons rfl (fun K hK => ?_) AllReadyH.nil
      go_simp
      refine (GO.out _ (Below.refl W.heap.size W).drew).mono ?_
      rintro e w2 ⟨a', c', rfl, hG', hle, hB2, hnew⟩
      refine hK.out _ _ trivial (fun hHeld => ?_)
      clear hK K
      try simp only [Act.put, List.getElem_toArray, List.getElem_cons_succ, List.getElem_cons_zero, List.setIfInBounds_toArray, List.set_cons_zero, List.set_cons_succ]
      have hB2' : Below W.heap.size W w2 := (Below.refl W.heap.size W).drew.trans hB2
      have hnew2 : ∀ k, inBlkE a' gl.length k → W.heap.size ≤ k := hnew
      have hcd2 : w2.cell? ⟨w.heap.size, 0, none⟩ = some v := (hB2'.cell (p := ⟨w.heap.size, 0, none⟩) (heap_lt HV.out)).trans HV.out.cell
      have hcd3 : (w2.alloc (.cells #[.int .i64 id, .int .i64 fi, .int .i64 te, .int .i64 ht, .int .i64 hvv, .int .i64 hc, .slice a' gl.length c'] 65)).cell? ⟨w.heap.size, 0, none⟩ = some v := ((bel_alloc (Below.refl w2.heap.size w2) _).cell (p := ⟨w.heap.size, 0, none⟩) (Nat.lt_of_lt_of_le (heap_lt HV.out) hB2'.size)).trans hcd2
      have hs2 : B1 ≤ w2.heap.size := Nat.le_trans hs hB2'.size
      have HROW3 := Lib.hid ((ownsRow_below (n := 0) HROW.out hB2').alloc (.cells #[.int .i64 id, .int .i64 fi, .int .i64 te, .int .i64 ht, .int .i64 hvv, .int .i64 hc, .slice a' gl.length c'] 65))
      refine wpAnyH_ready (rs := [3]) (by kernel_rfl) (by simp) ?_
      refine AllReadyH.cons rfl (fun K hK => ?_) AllReadyH.nil
      go_simp
      refine hK.out _ _ trivial (fun hHeld => ?_)
      clear hK K
      try simp only [Act.put, List.getElem_toArray, List.getElem_cons_succ, List.getElem_cons_zero, List.setIfInBounds_toArray, List.set_cons_zero, List.set_cons_succ]
      refine wpAnyH_ready (rs := [4]) (by kernel_rfl) (by simp) ?_
      refine AllReadyH.cons rfl (fun K hK => ?_) AllReadyH.nil
      refine step_append_lies _ rfl _ _ 62 rfl B1 65 i0 (.agg #[.int .i64 0, .int .i64 0, .int .i64 0, .int .i64 0, .int .i64 0, .int .i64 0, .slice none 0 0]) 7 72 Try.underlying62 hi hz0 hz1 hz2 rfl (by decide) _ _ _ rfl HROW3.out ⟨w2.heap.size, 0, none⟩ 1 1 [.int .i64 id, .int .i64 fi, .int .i64 te, .int .i64 ht, .int .i64 hvv, .int .i64 hc, .slice a' gl.length c'] rfl rfl (lnews_new _ _ _) (by simp [Value.oneCell']) (by omega) (by rw [HPL.out]; unfold maxLen; omega) (by rw [HPL.out]; omega) (by simp; omega) _ rfl ?_
      intro g' cap' w4 hown4 hgrow4 hlies4 _
      have hA := (lall_step (B0 := w.heap.size + 2) (L := L) HB.out (show w.heap.size < B1 by omega) hs HV.out HGs.out HROW.out HALL.out hB2' ⟨⟨id, fi, te, ht, hvv, hc, gl⟩, a', c'⟩ hG' hle hnew2 hown4 hgrow4 hlies4)
      simp only [List.length_map] at hA
      have HA := Lib.hid hA
      clear hA
      refine hK.out _ _ trivial (fun hHeld => ?_)
      clear hK K
      try simp only [Act.put, List.getElem_toArray, List.getElem_cons_succ, List.getElem_cons_zero, List.setIfInBounds_toArray, List.set_cons_zero, List.set_cons_succ]
      have hc2 := HA.out.1.cell
      have hf2 := HA.out.1.frozen
      refine wpAnyH_ready (rs := [5]) (by kernel_rfl) (by simp) ?_
      refine AllReadyH.cons rfl (fun K hK => ?_) AllReadyH.nil
      go_simp
      refine hK.out _ _ trivial (fun hHeld => ?_)
      clear hK K
      try simp only [Act.put, List.getElem_toArray, List.getElem_cons_succ, List.getElem_cons_zero, List.setIfInBounds_toArray, List.set_cons_zero, List.set_cons_succ]
      refine wpAnyH_done (by kernel_rfl) ?_ _
      refine onlyNormal_mk ?_
      gi_wp2
      exact ⟨by have h := HA.out.2.1; first | exact h | (rw [← hsz1] at h; exact h) | (rw [hsz1]; exact h), by show lallI w w.heap.size B1 ((pre ++ [_]).map fun x : LE => x.L.g) _; rw [List.map_append]; exact ⟨_, HA.out.2.2⟩⟩
    · go_simp
      refine (GO.out _ (Below.refl W.heap.size W).drew).mono ?_
      rintro e w2 ⟨a', c', rfl, hG', hle, hB2, hnew⟩
      refine hK.out _ _ trivial (fun hHeld => ?_)
      clear hK K
      try simp only [Act.put, List.getElem_toArray, List.getElem_cons_succ, List.getElem_cons_zero, List.setIfInBounds_toArray, List.set_cons_zero, List.set_cons_succ]
      have hB2' : Below W.heap.size W w2 := (Below.refl W.heap.size W).drew.trans hB2
      have hnew2 : ∀ k, inBlkE a' gl.length k → W.heap.size ≤ k := hnew
      have hcd2 : w2.cell? ⟨w.heap.size, 0, none⟩ = some v := (hB2'.cell (p := ⟨w.heap.size, 0, none⟩) (heap_lt HV.out)).trans HV.out.cell
      have hcd3 : (w2.alloc (.cells #[.int .i64 id, .int .i64 fi, .int .i64 te, .int .i64 ht, .int .i64 hvv, .int .i64 hc, .slice a' gl.length c'] 65)).cell? ⟨w.heap.size, 0, none⟩ = some v := ((bel_alloc (Below.refl w2.heap.size w2) _).cell (p := ⟨w.heap.size, 0, none⟩) (Nat.lt_of_lt_of_le (heap_lt HV.out) hB2'.size)).trans hcd2
      have hs2 : B1 ≤ w2.heap.size := Nat.le_trans hs hB2'.size
      have HROW3 := Lib.hid ((ownsRow_below (n := 0) HROW.out hB2').alloc (.cells #[.int .i64 id, .int .i64 fi, .int .i64 te, .int .i64 ht, .int .i64 hvv, .int .i64 hc, .slice a' gl.length c'] 65))
      refine wpAnyH_ready (rs := [0, 3]) (by kernel_rfl) (by simp) ?_
      refine AllReadyH.cons rfl (fun K hK => ?_) (AllReadyH.cons rfl (fun K hK => ?_) AllReadyH.nil)
      · go_simp
        refine hK.out _ _ trivial (fun hHeld => ?_)
        clear hK K
        try simp only [Act.put, List.getElem_toArray, List.getElem_cons_succ, List.getElem_cons_zero, List.setIfInBounds_toArray, List.set_cons_zero, List.set_cons_succ]
        refine wpAnyH_ready (rs := [3]) (by kernel_rfl) (by simp) ?_
        refine AllReadyH.cons rfl (fun K hK => ?_) AllReadyH.nil
        go_simp
        refine hK.out _ _ trivial (fun hHeld => ?_)
        clear hK K
        try simp only [Act.put, List.getElem_toArray, List.getElem_cons_succ, List.getElem_cons_zero, List.setIfInBounds_toArray, List.set_cons_zero, List.set_cons_succ]
        refine wpAnyH_ready (rs := [4]) (by kernel_rfl) (by simp) ?_
        refine AllReadyH.cons rfl (fun K hK => ?_) AllReadyH.nil
        refine step_append_lies _ rfl _ _ 62 rfl B1 65 i0 (.agg #[.int .i64 0, .int .i64 0, .int .i64 0, .int .i64 0, .int .i64 0, .int .i64 0, .slice none 0 0]) 7 72 Try.underlying62 hi hz0 hz1 hz2 rfl (by decide) _ _ _ rfl HROW3.out ⟨w2.heap.size, 0, none⟩ 1 1 [.int .i64 id, .int .i64 fi, .int .i64 te, .int .i64 ht, .int .i64 hvv, .int .i64 hc, .slice a' gl.length c'] rfl rfl (lnews_new _ _ _) (by simp [Value.oneCell']) (by omega) (by rw [HPL.out]; unfold maxLen; omega) (by rw [HPL.out]; omega) (by simp; omega) _ rfl ?_
        intro g' cap' w4 hown4 hgrow4 hlies4 _
        have hA := (lall_step (B0 := w.heap.size + 2) (L := L) HB.out (show w.heap.size < B1 by omega) hs HV.out HGs.out HROW.out HALL.out hB2' ⟨⟨id, fi, te, ht, hvv, hc, gl⟩, a', c'⟩ hG' hle hnew2 hown4 hgrow4 hlies4)
        simp only [List.length_map] at hA
        have HA := Lib.hid hA
        clear hA
        refine hK.out _ _ trivial (fun hHeld => ?_)
        clear hK K
        try simp only [Act.put, List.getElem_toArray, List.getElem_cons_succ, List.getElem_cons_zero, List.setIfInBounds_toArray, List.set_cons_zero, List.set_cons_succ]
        have hc2 := HA.out.1.cell
        have hf2 := HA.out.1.frozen
        refine wpAnyH_ready (rs := [5]) (by kernel_rfl) (by simp) ?_
        refine AllReadyH.cons rfl (fun K hK => ?_) AllReadyH.nil
        go_simp
        refine hK.out _ _ trivial (fun hHeld => ?_)
        clear hK K
        try simp only [Act.put, List.getElem_toArray, List.getElem_cons_succ, List.getElem_cons_zero, List.setIfInBounds_toArray, List.set_cons_zero, List.set_cons_succ]
        refine wpAnyH_done (by kernel_rfl) ?_ _
        refine onlyNormal_mk ?_
        gi_wp2
        exact ⟨by have h := HA.out.2.1; first | exact h | (rw [← hsz1] at h; exact h) | (rw [hsz1]; exact h), by show lallI w w.heap.size B1 ((pre ++ [_]).map fun x : LE => x.L.g) _; rw [List.map_append]; exact ⟨_, HA.out.2.2⟩⟩
      · go_simp
        refine hK.out _ _ trivial (fun hHeld => ?_)
        clear hK K
        try simp only [Act.put, List.getElem_toArray, List.getElem_cons_succ, List.getElem_cons_zero, List.setIfInBounds_toArray, List.set_cons_zero, List.set_cons_succ]
        refine wpAnyH_ready (rs := [0]) (by kernel_rfl) (by simp) ?_
        refine AllReadyH.cons rfl (fun K hK => ?_) AllReadyH.nil
        go_simp
        refine hK.out _ _ trivial (fun hHeld => ?_)
        clear hK K
        try simp only [Act.put, List.getElem_toArray, List.getElem_cons_succ, List.getElem_cons_zero, List.setIfInBounds_toArray, List.set_cons_zero, List.set_cons_succ]
        refine wpAnyH_ready (rs := [4]) (by kernel_rfl) (by simp) ?_
        refine AllReadyH.cons rfl (fun K hK => ?_) AllReadyH.nil
        refine step_append_lies _ rfl _ _ 62 rfl B1 65 i0 (.agg #[.int .i64 0, .int .i64 0, .int .i64 0, .int .i64 0, .int .i64 0, .int .i64 0, .slice none 0 0]) 7 72 Try.underlying62 hi hz0 hz1 hz2 rfl (by decide) _ _ _ rfl HROW3.out ⟨w2.heap.size, 0, none⟩ 1 1 [.int .i64 id, .int .i64 fi, .int .i64 te, .int .i64 ht, .int .i64 hvv, .int .i64 hc, .slice a' gl.length c'] rfl rfl (lnews_new _ _ _) (by simp [Value.oneCell']) (by omega) (by rw [HPL.out]; unfold maxLen; omega) (by rw [HPL.out]; omega) (by simp; omega) _ rfl ?_
        intro g' cap' w4 hown4 hgrow4 hlies4 _
        have hA := (lall_step (B0 := w.heap.size + 2) (L := L) HB.out (show w.heap.size < B1 by omega) hs HV.out HGs.out HROW.out HALL.out hB2' ⟨⟨id, fi, te, ht, hvv, hc, gl⟩, a', c'⟩ hG' hle hnew2 hown4 hgrow4 hlies4)
        simp only [List.length_map] at hA
        have HA := Lib.hid hA
        clear hA
        refine hK.out _ _ trivial (fun hHeld => ?_)
        clear hK K
        try simp only [Act.put, List.getElem_toArray, List.getElem_cons_succ, List.getElem_cons_zero, List.setIfInBounds_toArray, List.set_cons_zero, List.set_cons_succ]
        have hc2 := HA.out.1.cell
        have hf2 := HA.out.1.frozen
        refine wpAnyH_ready (rs := [5]) (by kernel_rfl) (by simp) ?_
        refine AllReadyH.cons rfl (fun K hK => ?_) AllReadyH.nil
        go_simp
        refine hK.out _ _ trivial (fun hHeld => ?_)
        clear hK K
        try simp only [Act.put, List.getElem_toArray, List.getElem_cons_succ, List.getElem_cons_zero, List.setIfInBounds_toArray, List.set_cons_zero, List.set_cons_succ]
        refine wpAnyH_done (by kernel_rfl) ?_ _
        refine onlyNormal_mk ?_
        gi_wp2
        exact ⟨by have h := HA.out.2.1; first | exact h | (rw [← hsz1] at h; exact h) | (rw [hsz1]; exact h), by show lallI w w.heap.size B1 ((pre ++ [_]).map fun x : LE => x.L.g) _; rw [List.map_append]; exact ⟨_, HA.out.2.2⟩⟩
    done
  case hd =>
    rintro B1 W hBB ⟨v, hv, ⟨Gs, hGs, hrow, hall⟩, hB, hs⟩ hD
    have hc := hv.cell
    have hw1 : w.heap.size ≤ w1.heap.size := hB1.size
    have HR := Lib.hid (own_baseL (ownsRow_keptL hrow hD rfl (.deferred none)) (show w.heap.size ≤ B1 by omega))
    have HB2 := Lib.hid (below_putObj (D := w1.heap.size) hB (Nat.le_refl _) hw1 (.deferred none))
    have HA := Lib.hid (fun x (hx : x ∈ Gs) => (And.intro (hasG_putL (hall x hx).1 hD rfl (.deferred none)) (hall x hx).2.1))
    clear hrow hB hall
    gi_wp2
    exact leave_one (v := v) hD (by simp [results, Try.results30, go_sem]) ⟨v, Gs, rfl, hGs, by rw [List.length_map] at *; exact HR.out, HA.out, HB2.out⟩
end Go.Proofs.Ytdncdlbhgaehmaa

/- (*Ledger).Spots: all spots, group by group. -/
namespace Go.Proofs.Ytdncdlbhgaehmaa
open Go.RowKit Go.Shelf
set_option linter.unusedVariables false
attribute [local go_sem] Oper.semAt_some wide_fn wide_round_fn

theorem run_append_zero {P : Program} {w : World} (base : Nat) (t ty e : TypeId) (i : TypeInfo) (size : Nat) (ht : P.underlying t = some (.slice e)) (hi : P.info? e = some i)
    (v : Value) (n : Nat) (xs : List Value) (hown : w.ownsRow base e size v n xs) (va : Option Addr) (vc : Nat) :
    (Builtin.append_ #[t, t] ty #[v, .slice va 0 vc]).run P w = .ok v w := by
  rcases hown.2 with ⟨rfl, rfl⟩ | ⟨g, cap, cur, rfl, _, _, hnc, _⟩
  · cases va <;> simp [Builtin.append_, run_underlying ht, sizeOf, typeInfo, hi, Builtin.lenOf, Builtin.firstCells, loadCells, loadCellsFrom]
  · cases va <;> simp [Builtin.append_, run_underlying ht, sizeOf, typeInfo, hi, Builtin.lenOf, Builtin.firstCells, hnc, storeCells, loadCells, loadCellsFrom]
theorem step_append_zero {P : Program} {w : World} {ops : Array Oper} {o : Oper} {a : Act} {K : Act → World → Prop} {Q : Exit → Act → World → Prop} {E : Prop} (hgd : o.guard = none) (s x : Operand) (t : TypeId)
    (ho : o.op = .call { callee := .builtin .append, args := #[s, x], argTypes := #[t, t] })
    (base : Nat) (e : TypeId) (i : TypeInfo) (size : Nat) (ht : P.underlying t = some (.slice e)) (hi : P.info? e = some i)
    (v : Value) (n : Nat) (xs : List Value) (hs : a.eval s = v) (hown : w.ownsRow base e size v n xs) (va : Option Addr) (vc : Nat) (hx : a.eval x = .slice va 0 vc)
    (h : K (a.put o.dst v) w) : if Region.wanted o (yielded ops a.tmps) = true then Oper.wp P o a w K Q else E := by
  have hw : Region.wanted o (yielded ops a.tmps) = true := by simp [Region.wanted, hgd]
  rw [if_pos hw]
  have hrun := run_append_zero (P := P) (w := w) base t o.type e i size ht hi v n xs hown va vc
  unfold Oper.wp
  simp [execOp, ho, resolve, invoke, builtin, hs, hx, hrun, Result.andThen]
  exact h
/-- All spots of a ledger. -/
def fl (F : List LE) : List SpotC := F.flatMap fun x => spotsL x.L.g x.L.F
theorem fl_snoc (F : List LE) (x : LE) : fl (F ++ [x]) = fl F ++ spotsL x.L.g x.L.F := by simp [fl]
theorem spots_lenL (g : GM) (F : List LV) : (spotsL g F).length ≤ g.l.length + 2 := by
  show ((if hasK F (-1) = true then [spotOf g F (-1)] else []) ++ ((if hasK F 0 = true then [spotOf g F 0] else []) ++ g.l.map (fun e => spotOf g F e.i))).length ≤ _
  rw [List.length_append, List.length_append, List.length_map]
  split <;> split <;> simp <;> omega
theorem fl_len {N : Nat} {F : List LE} (h : okA N (F.map LE.L)) : (fl F).length ≤ F.length * (N + 2) := by
  unfold fl
  rw [List.length_flatMap]
  induction F with
  | nil => simp
  | cons x r ih =>
    have h1 : okA N (r.map LE.L) := fun L hL => h L (List.mem_cons_of_mem _ hL)
    have h2 := ih h1
    have h3 := (h x.L (by simp)).2.1
    have h4 : (spotsL x.L.g x.L.F).length ≤ N + 2 := by have := spots_lenL x.L.g x.L.F; omega
    rw [List.map_cons, List.sum_cons, List.length_cons, Nat.succ_mul]
    omega
theorem spotCells_lenL : ∀ X : List SpotC, (spotCells X).length = X.length * 4
  | [] => rfl
  | x :: r => by
    show ((x :: r).map SpotC.cells).flatten.length = _
    rw [List.map_cons, List.flatten_cons, List.length_append, List.length_cons, Nat.succ_mul]
    have := spotCells_lenL r
    unfold spotCells at this
    rw [this, SpotC.len]; omega
theorem spot_one (X : List SpotC) : ∀ u ∈ spotCells X, u.oneCell' = true := by
  intro u hu
  unfold spotCells at hu
  obtain ⟨c, hc, hu⟩ := List.mem_flatten.1 hu
  obtain ⟨x, _, rfl⟩ := List.mem_map.1 hc
  simp [SpotC.cells] at hu
  rcases hu with rfl | rfl | rfl | rfl <;> rfl
def sallV (w : World) (q B1 : Nat) (X : List SpotC) (v : Value) (W : World) : Prop := Boxed W q 67 v ∧ W.ownsRow B1 86 4 v X.length (spotCells X) ∧ Below w.heap.size w W ∧ B1 ≤ W.heap.size
def sallI (w : World) (q B1 : Nat) (X : List SpotC) (W : World) : Prop := ∃ v, sallV w q B1 X v W
theorem sallV_stab {w : World} {q B B1 : Nat} {X : List SpotC} {v : Value} (h : w.heap.size ≤ B) : Stab B (fun _ => False) (sallV w q B1 X v) :=
  (Stab.boxed id).and ((Stab.ownsRow (fun _ h => h.elim)).and ((Stab.below (Nat.le_refl _) h (fun _ h => h.elim)).and Stab.size))
theorem sallI_stab {w : World} {q B B1 : Nat} {X : List SpotC} (h : w.heap.size ≤ B) : Stab B (fun _ => False) (sallI w q B1 X) := Stab.ex fun v => sallV_stab h
theorem sall_none {w W w2 : World} {B0 B1 L : Nat} {X : List SpotC} {v : Value} (hB : Below w.heap.size w W) (hBB : w.heap.size < B1) (hs : B1 ≤ W.heap.size) (hv : Boxed W w.heap.size 67 v) (hrow : W.ownsRow B1 86 4 v X.length (spotCells X)) (hB2 : Below W.heap.size W w2) :
    Rd B0 (fun j => (j < B1 ∧ ¬ (j = w.heap.size)) ∧ j ≠ L) W (w2.setCell ⟨w.heap.size, 0, none⟩ v) ∧ sallV w w.heap.size B1 X v (w2.setCell ⟨w.heap.size, 0, none⟩ v) := by
  have hv2 : Boxed w2 w.heap.size 67 v := (hB2.block _ (heap_lt hv)).trans hv
  have hF := FrameT.setCell w2 w.heap.size 0 v
  have hB3 := bel2 hB hB2
  have hbx : Boxed (w2.setCell ⟨w.heap.size, 0, none⟩ v) w.heap.size 67 v := Go.Joins.block_setCell hv2 v (i := 0)
  refine ⟨(Rd.below hB2).setBox hv2 (fun h => h.1.2 rfl) v, hbx, (ownsRow_below (n := 0) hrow hB2).kept (grownBy_setCell' w2 w.heap.size v) (.inr (fun e => ?_)), hB3.trans (hF.toBelow hB3.size (fun k hk => by omega)), ?_⟩
  · have := (ownBlock_ltL hrow e.symm).1; omega
  · have := hF.size; have := hB2.size; omega
theorem sall_step {w W w2 w4 : World} {B0 B1 L : Nat} {X Y : List SpotC} {v v' : Value} (hB : Below w.heap.size w W) (hBB : w.heap.size < B1) (hs : B1 ≤ W.heap.size) (hv : Boxed W w.heap.size 67 v) (hrow : W.ownsRow B1 86 4 v X.length (spotCells X)) (hB2 : Below W.heap.size W w2)
    (hown : w4.ownsRow B1 86 4 v' (X.length + Y.length) (spotCells X ++ spotCells Y)) (hgrow : w2.grownBy w4 v.ownBlock) :
    Boxed w4 w.heap.size 67 v ∧ Rd B0 (fun j => (j < B1 ∧ ¬ (j = w.heap.size)) ∧ j ≠ L) W (w4.setCell ⟨w.heap.size, 0, none⟩ v') ∧ sallV w w.heap.size B1 (X ++ Y) v' (w4.setCell ⟨w.heap.size, 0, none⟩ v') := by
  have hv2 : Boxed w2 w.heap.size 67 v := (hB2.block _ (heap_lt hv)).trans hv
  have hrow2 := ownsRow_below (n := 0) hrow hB2
  have hnq : ∀ {Z : World} {z : Value} {n : Nat} {ys : List Value}, Z.ownsRow B1 86 4 z n ys → z.ownBlock ≠ some w.heap.size := fun h e => by
    have := (ownBlock_ltL h e.symm).1; omega
  have hFg : FrameT (fun k => some k = v.ownBlock) w2 w4 := ⟨hgrow.os, hgrow.tape, hgrow.output, hgrow.size, fun k hk hT => hgrow.block k hk hT⟩
  have hv4 : Boxed w4 w.heap.size 67 v := hFg.get hv2 (fun e => hnq hrow2 e.symm)
  have hF := FrameT.setCell w4 w.heap.size 0 v'
  have hB3 := bel2 hB hB2
  have hB4 := hB3.trans (hFg.toBelow hB3.size (fun k hk => by have := (ownBlock_ltL hrow2 hk).1; omega))
  refine ⟨hv4, ((Rd.below hB2).grown hgrow (fun k e => ?_)).setBox hv4 (fun h => h.1.2 rfl) v', Go.Joins.block_setCell hv4 v' (i := 0), ?_, hB4.trans (hF.toBelow hB4.size (fun k hk => by omega)), ?_⟩
  · have h9 := (ownBlock_ltL hrow2 e.symm).1
    refine ⟨fun h => by have := h.1.1; omega, .inr ?_⟩
    rcases hrow2.2 with ⟨rfl, _⟩ | ⟨g, cap, cur, rfl, _, hgb, _⟩
    · simp [Value.ownBlock] at e
    · obtain rfl : g = k := by simpa [Value.ownBlock] using e
      exact ⟨_, hgb, rfl⟩
  · rw [List.length_append]
    have := hown.kept (grownBy_setCell' w4 w.heap.size v') (.inr (hnq hown))
    rw [show spotCells (X ++ Y) = spotCells X ++ spotCells Y by simp [spotCells]]
    exact this
  · have := hF.size; have := hgrow.size; have := hB2.size; omega
/-- What Spots tells. -/
def SAllPost (w : World) (X : List SpotC) (e : Ending) (w' : World) : Prop := ∃ v, e = .returned v ∧ w'.ownsRow w.heap.size 86 4 v X.length (spotCells X) ∧ Below w.heap.size w w'
set_option maxRecDepth 100000 in
set_option maxHeartbeats 2000000 in
theorem sall_any {w : World} {d m N : Nat} {F : List LE} (h : LedAt w d m F) (hF : F.length ≤ 1000) (hok : okA N (F.map LE.L)) (hN : N ≤ 10000) :
    Calls Try.prog 32 #[.pointer (some ⟨d, 0, none⟩)] w (SAllPost w (fl F)) := by
  obtain ⟨i0, hi, hz0, hz1, hz2⟩ := info_parts infoSpotP
  have hmx : Try.prog.follows .mixedOrders = true := by kernel_rfl
  refine (callsIn_wide (n := 9)).1 ?_
  refine callsIn_of_wp_marks Try.func32 rfl trivial ?_ rfl
  simp only [Try.ntmps32, List.size_toArray, List.length_cons, List.length_nil, Nat.reduceAdd, Nat.reduceSub, Array.replicate_succ, Array.replicate_zero, List.push_toArray, List.append_toArray, List.nil_append, List.cons_append]
  have bO := Boxed.new w 67 (.slice none 0 0)
  have hB0 : Below w.heap.size w (w.alloc (.cells #[.slice none 0 0] 67)) := (Below.refl _ w).alloc (Nat.le_refl _) _
  have hsz : (w.alloc (.cells #[.slice none 0 0] 67)).heap.size = w.heap.size + 1 := by simp
  have HD := Lib.hid h
  have HOKA := Lib.hid hok
  have HB0 := Lib.hid hB0
  have HbO := Lib.hid bO
  have HSz := Lib.hid hsz
  clear h hB0 bO hsz hok
  gi_wp2_with (gi_at_call 51; refine (callsIn_wide.2 (lorder_any d _)).mono ?_; rintro e w1 ⟨rfl, rfl⟩)
  obtain ⟨w1, hw1⟩ : ∃ w1, w1 = (w.alloc (.cells #[.slice none 0 0] 67)).alloc (.cells #[.pointer (some ⟨d, 0, none⟩)] 53) := ⟨_, rfl⟩
  rw [← hw1]
  have hB1 : Below w.heap.size w w1 := by rw [hw1]; exact bel_alloc HB0.out _
  have bO1 : Boxed w1 w.heap.size 67 (.slice none 0 0) := by rw [hw1]; exact HbO.out.alloc _
  have cb : w1.cell? ⟨w.heap.size + 1, 0, none⟩ = some (.pointer (some ⟨d, 0, none⟩)) := by
    have := (Boxed.new (w.alloc (.cells #[.slice none 0 0] 67)) 53 (.pointer (some ⟨d, 0, none⟩))).cell
    rw [hw1]; rwa [World.size_alloc] at this
  have hsz1 : w1.heap.size = w.heap.size + 2 := by rw [hw1]; simp
  clear hw1
  have hdl := heap_lt HD.out.box
  have hml := HD.out.map.lt
  have HI := Lib.hid (lorder_iter HD.out (by omega) HD.out.ris HD.out.ids (w.heap.size + 1) (fun _ => True) (fun k => k = w.heap.size) w1 hB1 cb ⟨trivial, trivial, trivial⟩ ⟨by omega, by omega, by omega⟩ (fun k hk => by omega) (by omega))
  clear cb
  refine range_outerV rfl (enters_of Try.func79 (by kernel_rfl) rfl) HI.out (fun _ => rfl)
    (fun B1 pre W => sallI w w.heap.size B1 (fl pre) W) (fun _ _ _ => False) (fun _ _ => sallI_stab hB1.size) (fun _ _ => Stab.pure _)
    (fun W1 hb => ⟨_, boxed_below bO1 hb (by omega), World.ownsRow_nil _ _ _ _, hB1.trans (hb.mono hB1.size), Nat.le_refl _⟩) ?hr ?hd (fun _ _ _ _ _ _ h => h.elim)
  case hr =>
    rintro B1 L pre x suf W hBB hx hl' hi1 hrec
    have hpl : pre.length < 1000 := by have h1 := congrArg List.length hx; simp at h1; omega
    have hxF : x ∈ F := by rw [hx]; simp
    obtain ⟨xd, xm, ⟨gx, xF⟩⟩ := x
    dsimp only [LE.val] at *
    obtain ⟨v, hv⟩ := hi1
    gi_wp2
    refine rdThen_mk (fun W' => sallV w w.heap.size B1 (fl pre) v W') (sallV_stab hB1.size) hv (Rd.refl _ _ _) ?_
    clear hv hrec W
    rintro W ⟨hv, hrow, hB, hs⟩ hrec
    have hLS := (HD.out.below hB).logs _ hxF
    have HLS := Lib.hid (fun W' (hB' : Below W.heap.size W W') => hLS.below hB')
    have hokx := HOKA.out ⟨gx, xF⟩ (List.mem_map.2 ⟨_, hxF, rfl⟩)
    have hplb := fl_len (N := N) (F := pre) (fun L hL => by obtain ⟨y, hy, rfl⟩ := List.mem_map.1 hL; exact HOKA.out _ (List.mem_map.2 ⟨y, by rw [hx]; simp [hy], rfl⟩))
    have hxl : (spotsL gx xF).length ≤ N + 2 := by
      have := hokx.2.1
      have h4 := spots_lenL gx xF
      dsimp only at this
      omega
    have HPX := Lib.hid (show (fl pre).length + (spotsL gx xF).length ≤ 20000000 by
      have h1 : pre.length * (N + 2) ≤ 1000 * 10002 := Nat.mul_le_mul (by omega) (by omega)
      omega)
    have HV := Lib.hid hv
    have HROW := Lib.hid hrow
    have HB := Lib.hid hB
    have HPL := Lib.hid (show (fl pre).length = (fl pre).length from rfl)
    have GO := Lib.hid (fun W' (hB' : Below W.heap.size W W') => (show Calls Try.prog 54 #[.pointer (some ⟨xd, 0, none⟩)] W' (fun e w' => ∃ va vc, e = .returned (.slice va (spotsL gx xF).length vc) ∧ RowV w' va (spotsL gx xF).length 4 (spotCells (spotsL gx xF)) ∧ Below W'.heap.size W' w') from (pspotsS_any (HLS.out W' hB') hokx.1).mono (fun e w' ⟨va, vc, h1, h2, _, h3⟩ => ⟨va, vc, h1, h2, h3⟩)))
    have hcd : W.drew.cell? ⟨w.heap.size, 0, none⟩ = some v := hv.cell
    have hfd := hv.frozen
    clear hx hxF hrow hB hLS hokx hplb hxl hrec
    have hX0 : (spotsL gx xF).length = 0 ∨ 0 < (spotsL gx xF).length := by omega
    rcases hX0 with hX0 | hX0
    · obtain ⟨va5, cp5, rfl⟩ := own_sliceLg HROW.out
      have HX0 := Lib.hid (List.length_eq_zero_iff.1 hX0)
      rw [HX0.out] at GO
      dsimp only [List.length_nil] at GO
      clear hX0
      gi_wp2
      refine wpIn_of_heldL (S := fun _ => True) hmx (by kernel_rfl) ⟨_, rfl⟩ trivial (fun hHeld => ?_)
      refine wpAnyH_take (i := 1) (v := .pointer (some ⟨xd, 0, none⟩)) rfl (by kernel_rfl) (by kernel_rfl) (by kernel_rfl) (fun _ _ _ h => absurd h.1 (by simp)) (Or.inl ⟨by rfl, fun w hSw => by go_simp⟩) hHeld ?_
      try simp only [Act.put, List.getElem_toArray, List.getElem_cons_succ, List.getElem_cons_zero, List.setIfInBounds_toArray, List.set_cons_zero, List.set_cons_succ]
      refine wpAnyH_ready (rs := [0, 2]) (by kernel_rfl) (by simp) ?_
      refine AllReadyH.cons rfl (fun K hK => ?_) (AllReadyH.cons rfl (fun K hK => ?_) AllReadyH.nil)
      · go_simp
        refine hK.out _ _ trivial (fun hHeld => ?_)
        clear hK K
        try simp only [Act.put, List.getElem_toArray, List.getElem_cons_succ, List.getElem_cons_zero, List.setIfInBounds_toArray, List.set_cons_zero, List.set_cons_succ]
        refine wpAnyH_ready (rs := [2]) (by kernel_rfl) (by simp) ?_
        refine AllReadyH.cons rfl (fun K hK => ?_) AllReadyH.nil
        go_simp
        refine (GO.out _ (Below.refl W.heap.size W).drew).mono ?_
        rintro e w2 ⟨va, vc, rfl, hrs, hB2⟩
        refine hK.out _ _ trivial (fun hHeld => ?_)
        clear hK K
        try simp only [Act.put, List.getElem_toArray, List.getElem_cons_succ, List.getElem_cons_zero, List.setIfInBounds_toArray, List.set_cons_zero, List.set_cons_succ]
        have hB2' : Below W.heap.size W w2 := (Below.refl W.heap.size W).drew.trans hB2
        have hcd2 : w2.cell? ⟨w.heap.size, 0, none⟩ = some (.slice va5 (fl pre).length cp5) := (hB2'.cell (p := ⟨w.heap.size, 0, none⟩) (heap_lt HV.out)).trans HV.out.cell
        have HROW2 := Lib.hid (ownsRow_below (n := 0) HROW.out hB2')
        have HRS := Lib.hid hrs
        refine wpAnyH_ready (rs := [3]) (by kernel_rfl) (by simp) ?_
        refine AllReadyH.cons rfl (fun K hK => ?_) AllReadyH.nil
        refine step_append_zero rfl _ _ 67 rfl B1 86 i0 4 Try.underlying67 hi (.slice va5 (fl pre).length cp5) _ _ rfl HROW2.out va vc rfl ?_
        go_simp
        refine hK.out _ _ trivial (fun hHeld => ?_)
        clear hK K
        try simp only [Act.put, List.getElem_toArray, List.getElem_cons_succ, List.getElem_cons_zero, List.setIfInBounds_toArray, List.set_cons_zero, List.set_cons_succ]
        have hbx2 : Boxed w2 w.heap.size 67 (.slice va5 (fl pre).length cp5) := (hB2'.block _ (heap_lt HV.out)).trans HV.out
        have hc2 := hbx2.cell
        have hf2 := hbx2.frozen
        have hA := sall_none (B0 := w.heap.size + 2) (L := L) HB.out (show w.heap.size < B1 by omega) hs HV.out HROW.out hB2'
        have HA := Lib.hid hA
        clear hA
        refine wpAnyH_ready (rs := [4]) (by kernel_rfl) (by simp) ?_
        refine AllReadyH.cons rfl (fun K hK => ?_) AllReadyH.nil
        go_simp
        refine hK.out _ _ trivial (fun hHeld => ?_)
        clear hK K
        try simp only [Act.put, List.getElem_toArray, List.getElem_cons_succ, List.getElem_cons_zero, List.setIfInBounds_toArray, List.set_cons_zero, List.set_cons_succ]
        refine wpAnyH_done (by kernel_rfl) ?_ _
        refine onlyNormal_mk ?_
        gi_wp2
        exact ⟨by have h := HA.out.1; first | exact h | (rw [← hsz1] at h; exact h) | (rw [hsz1]; exact h), by show sallI w w.heap.size B1 (fl (pre ++ [_])) _; rw [fl_snoc, show spotsL _ xF = [] from HX0.out, List.append_nil]; exact ⟨_, HA.out.2⟩⟩
      · go_simp
        refine (GO.out _ (Below.refl W.heap.size W).drew).mono ?_
        rintro e w2 ⟨va, vc, rfl, hrs, hB2⟩
        refine hK.out _ _ trivial (fun hHeld => ?_)
        clear hK K
        try simp only [Act.put, List.getElem_toArray, List.getElem_cons_succ, List.getElem_cons_zero, List.setIfInBounds_toArray, List.set_cons_zero, List.set_cons_succ]
        have hB2' : Below W.heap.size W w2 := (Below.refl W.heap.size W).drew.trans hB2
        have hcd2 : w2.cell? ⟨w.heap.size, 0, none⟩ = some (.slice va5 (fl pre).length cp5) := (hB2'.cell (p := ⟨w.heap.size, 0, none⟩) (heap_lt HV.out)).trans HV.out.cell
        have HROW2 := Lib.hid (ownsRow_below (n := 0) HROW.out hB2')
        have HRS := Lib.hid hrs
        refine wpAnyH_ready (rs := [0]) (by kernel_rfl) (by simp) ?_
        refine AllReadyH.cons rfl (fun K hK => ?_) AllReadyH.nil
        go_simp
        refine hK.out _ _ trivial (fun hHeld => ?_)
        clear hK K
        try simp only [Act.put, List.getElem_toArray, List.getElem_cons_succ, List.getElem_cons_zero, List.setIfInBounds_toArray, List.set_cons_zero, List.set_cons_succ]
        refine wpAnyH_ready (rs := [3]) (by kernel_rfl) (by simp) ?_
        refine AllReadyH.cons rfl (fun K hK => ?_) AllReadyH.nil
        refine step_append_zero rfl _ _ 67 rfl B1 86 i0 4 Try.underlying67 hi (.slice va5 (fl pre).length cp5) _ _ rfl HROW2.out va vc rfl ?_
        go_simp
        refine hK.out _ _ trivial (fun hHeld => ?_)
        clear hK K
        try simp only [Act.put, List.getElem_toArray, List.getElem_cons_succ, List.getElem_cons_zero, List.setIfInBounds_toArray, List.set_cons_zero, List.set_cons_succ]
        have hbx2 : Boxed w2 w.heap.size 67 (.slice va5 (fl pre).length cp5) := (hB2'.block _ (heap_lt HV.out)).trans HV.out
        have hc2 := hbx2.cell
        have hf2 := hbx2.frozen
        have hA := sall_none (B0 := w.heap.size + 2) (L := L) HB.out (show w.heap.size < B1 by omega) hs HV.out HROW.out hB2'
        have HA := Lib.hid hA
        clear hA
        refine wpAnyH_ready (rs := [4]) (by kernel_rfl) (by simp) ?_
        refine AllReadyH.cons rfl (fun K hK => ?_) AllReadyH.nil
        go_simp
        refine hK.out _ _ trivial (fun hHeld => ?_)
        clear hK K
        try simp only [Act.put, List.getElem_toArray, List.getElem_cons_succ, List.getElem_cons_zero, List.setIfInBounds_toArray, List.set_cons_zero, List.set_cons_succ]
        refine wpAnyH_done (by kernel_rfl) ?_ _
        refine onlyNormal_mk ?_
        gi_wp2
        exact ⟨by have h := HA.out.1; first | exact h | (rw [← hsz1] at h; exact h) | (rw [hsz1]; exact h), by show sallI w w.heap.size B1 (fl (pre ++ [_])) _; rw [fl_snoc, show spotsL _ xF = [] from HX0.out, List.append_nil]; exact ⟨_, HA.out.2⟩⟩
    · obtain ⟨X, hXe⟩ : ∃ X, X = spotsL gx xF := ⟨_, rfl⟩
      have HXE := Lib.hid hXe
      rw [← hXe] at GO HPX hX0
      clear hXe
      have HX4 := Lib.hid (show (spotCells X).length = X.length * 4 from spotCells_lenL X)
      have HNW := Lib.hid (fun w2 va (hr : RowV w2 va X.length 4 (spotCells X)) => (show ∃ sb so, va = some ⟨sb, so, none⟩ ∧ ∀ w3, w3 = w2 → ∀ j u, (spotCells X)[j]? = some u → w3.cell? ((⟨sb, so, none⟩ : Addr).add j) = some u from by
        obtain ⟨sb, so, e, hb, hc⟩ := hr.2.2 hX0
        refine ⟨sb, so, e, fun w3 hw j u hu => ?_⟩
        subst hw
        obtain ⟨hj, rfl⟩ := List.getElem?_eq_some_iff.1 hu
        have hadd : (⟨sb, so, none⟩ : Addr).add j = ⟨sb, so + j, none⟩ := by unfold Addr.add; split <;> simp_all
        rw [hadd]
        exact hc j hj))
      gi_wp2
      refine wpIn_of_heldL (S := fun _ => True) hmx (by kernel_rfl) ⟨_, rfl⟩ trivial (fun hHeld => ?_)
      refine wpAnyH_take (i := 1) (v := .pointer (some ⟨xd, 0, none⟩)) rfl (by kernel_rfl) (by kernel_rfl) (by kernel_rfl) (fun _ _ _ h => absurd h.1 (by simp)) (Or.inl ⟨by rfl, fun w hSw => by go_simp⟩) hHeld ?_
      try simp only [Act.put, List.getElem_toArray, List.getElem_cons_succ, List.getElem_cons_zero, List.setIfInBounds_toArray, List.set_cons_zero, List.set_cons_succ]
      refine wpAnyH_ready (rs := [0, 2]) (by kernel_rfl) (by simp) ?_
      refine AllReadyH.cons rfl (fun K hK => ?_) (AllReadyH.cons rfl (fun K hK => ?_) AllReadyH.nil)
      · go_simp
        refine hK.out _ _ trivial (fun hHeld => ?_)
        clear hK K
        try simp only [Act.put, List.getElem_toArray, List.getElem_cons_succ, List.getElem_cons_zero, List.setIfInBounds_toArray, List.set_cons_zero, List.set_cons_succ]
        refine wpAnyH_ready (rs := [2]) (by kernel_rfl) (by simp) ?_
        refine AllReadyH.cons rfl (fun K hK => ?_) AllReadyH.nil
        go_simp
        refine (GO.out _ (Below.refl W.heap.size W).drew).mono ?_
        rintro e w2 ⟨va, vc, rfl, hrs, hB2⟩
        refine hK.out _ _ trivial (fun hHeld => ?_)
        clear hK K
        try simp only [Act.put, List.getElem_toArray, List.getElem_cons_succ, List.getElem_cons_zero, List.setIfInBounds_toArray, List.set_cons_zero, List.set_cons_succ]
        have hB2' : Below W.heap.size W w2 := (Below.refl W.heap.size W).drew.trans hB2
        have hcd2 : w2.cell? ⟨w.heap.size, 0, none⟩ = some v := (hB2'.cell (p := ⟨w.heap.size, 0, none⟩) (heap_lt HV.out)).trans HV.out.cell
        have HROW2 := Lib.hid (ownsRow_below (n := 0) HROW.out hB2')
        have HRS := Lib.hid hrs
        obtain ⟨sb, so, rfl, hnews⟩ := HNW.out w2 va HRS.out
        refine wpAnyH_ready (rs := [3]) (by kernel_rfl) (by simp) ?_
        refine AllReadyH.cons rfl (fun K hK => ?_) AllReadyH.nil
        refine step_append_lies _ rfl _ _ 67 rfl B1 86 i0 (.agg #[.int .i64 0, .int .i64 0, .int .i64 0, .int .i64 0]) 4 32 Try.underlying67 hi hz0 hz1 hz2 rfl (by decide) _ _ _ rfl HROW2.out ⟨sb, so, none⟩ X.length vc (spotCells X) rfl HX4.out (hnews _ rfl) (spot_one X) hX0 (by have := HPX.out; unfold maxLen; omega) (by have := HPX.out; omega) (Nat.le_trans hs hB2'.size) _ rfl ?_
        intro g' cap' w4 hown4 hgrow4 hlies4 _
        have hA := sall_step (B0 := w.heap.size + 2) (L := L) HB.out (show w.heap.size < B1 by omega) hs HV.out HROW.out hB2' hown4 hgrow4
        refine hK.out _ _ trivial (fun hHeld => ?_)
        clear hK K
        try simp only [Act.put, List.getElem_toArray, List.getElem_cons_succ, List.getElem_cons_zero, List.setIfInBounds_toArray, List.set_cons_zero, List.set_cons_succ]
        have hc2 := hA.1.cell
        have hf2 := hA.1.frozen
        have HA := Lib.hid hA.2
        clear hA
        refine wpAnyH_ready (rs := [4]) (by kernel_rfl) (by simp) ?_
        refine AllReadyH.cons rfl (fun K hK => ?_) AllReadyH.nil
        go_simp
        refine hK.out _ _ trivial (fun hHeld => ?_)
        clear hK K
        try simp only [Act.put, List.getElem_toArray, List.getElem_cons_succ, List.getElem_cons_zero, List.setIfInBounds_toArray, List.set_cons_zero, List.set_cons_succ]
        refine wpAnyH_done (by kernel_rfl) ?_ _
        refine onlyNormal_mk ?_
        gi_wp2
        exact ⟨by have h := HA.out.1; first | exact h | (rw [← hsz1] at h; exact h) | (rw [hsz1]; exact h), by show sallI w w.heap.size B1 (fl (pre ++ [_])) _; rw [fl_snoc]; dsimp only; rw [← HXE.out]; exact ⟨_, HA.out.2⟩⟩
      · go_simp
        refine (GO.out _ (Below.refl W.heap.size W).drew).mono ?_
        rintro e w2 ⟨va, vc, rfl, hrs, hB2⟩
        refine hK.out _ _ trivial (fun hHeld => ?_)
        clear hK K
        try simp only [Act.put, List.getElem_toArray, List.getElem_cons_succ, List.getElem_cons_zero, List.setIfInBounds_toArray, List.set_cons_zero, List.set_cons_succ]
        have hB2' : Below W.heap.size W w2 := (Below.refl W.heap.size W).drew.trans hB2
        have hcd2 : w2.cell? ⟨w.heap.size, 0, none⟩ = some v := (hB2'.cell (p := ⟨w.heap.size, 0, none⟩) (heap_lt HV.out)).trans HV.out.cell
        have HROW2 := Lib.hid (ownsRow_below (n := 0) HROW.out hB2')
        have HRS := Lib.hid hrs
        obtain ⟨sb, so, rfl, hnews⟩ := HNW.out w2 va HRS.out
        refine wpAnyH_ready (rs := [0]) (by kernel_rfl) (by simp) ?_
        refine AllReadyH.cons rfl (fun K hK => ?_) AllReadyH.nil
        go_simp
        refine hK.out _ _ trivial (fun hHeld => ?_)
        clear hK K
        try simp only [Act.put, List.getElem_toArray, List.getElem_cons_succ, List.getElem_cons_zero, List.setIfInBounds_toArray, List.set_cons_zero, List.set_cons_succ]
        refine wpAnyH_ready (rs := [3]) (by kernel_rfl) (by simp) ?_
        refine AllReadyH.cons rfl (fun K hK => ?_) AllReadyH.nil
        refine step_append_lies _ rfl _ _ 67 rfl B1 86 i0 (.agg #[.int .i64 0, .int .i64 0, .int .i64 0, .int .i64 0]) 4 32 Try.underlying67 hi hz0 hz1 hz2 rfl (by decide) _ _ _ rfl HROW2.out ⟨sb, so, none⟩ X.length vc (spotCells X) rfl HX4.out (hnews _ rfl) (spot_one X) hX0 (by have := HPX.out; unfold maxLen; omega) (by have := HPX.out; omega) (Nat.le_trans hs hB2'.size) _ rfl ?_
        intro g' cap' w4 hown4 hgrow4 hlies4 _
        have hA := sall_step (B0 := w.heap.size + 2) (L := L) HB.out (show w.heap.size < B1 by omega) hs HV.out HROW.out hB2' hown4 hgrow4
        refine hK.out _ _ trivial (fun hHeld => ?_)
        clear hK K
        try simp only [Act.put, List.getElem_toArray, List.getElem_cons_succ, List.getElem_cons_zero, List.setIfInBounds_toArray, List.set_cons_zero, List.set_cons_succ]
        have hc2 := hA.1.cell
        have hf2 := hA.1.frozen
        have HA := Lib.hid hA.2
        clear hA
        refine wpAnyH_ready (rs := [4]) (by kernel_rfl) (by simp) ?_
        refine AllReadyH.cons rfl (fun K hK => ?_) AllReadyH.nil
        go_simp
        refine hK.out _ _ trivial (fun hHeld => ?_)
        clear hK K
        try simp only [Act.put, List.getElem_toArray, List.getElem_cons_succ, List.getElem_cons_zero, List.setIfInBounds_toArray, List.set_cons_zero, List.set_cons_succ]
        refine wpAnyH_done (by kernel_rfl) ?_ _
        refine onlyNormal_mk ?_
        gi_wp2
        exact ⟨by have h := HA.out.1; first | exact h | (rw [← hsz1] at h; exact h) | (rw [hsz1]; exact h), by show sallI w w.heap.size B1 (fl (pre ++ [_])) _; rw [fl_snoc]; dsimp only; rw [← HXE.out]; exact ⟨_, HA.out.2⟩⟩
    done
  case hd =>
    rintro B1 W hBB ⟨v, hv, hrow, hB, hs⟩ hD
    have hc := hv.cell
    have hw1 : w.heap.size ≤ w1.heap.size := hB1.size
    have HR := Lib.hid (own_baseL (ownsRow_keptL hrow hD rfl (.deferred none)) (show w.heap.size ≤ B1 by omega))
    have HB2 := Lib.hid (below_putObj (D := w1.heap.size) hB (Nat.le_refl _) hw1 (.deferred none))
    clear hrow hB
    gi_wp2
    exact leave_one (v := v) hD (by simp [results, Try.results32, go_sem]) ⟨v, rfl, HR.out, HB2.out⟩

end Go.Proofs.Ytdncdlbhgaehmaa

/- (*Ledger).Get, Dense. -/
namespace Go.Proofs.Ytdncdlbhgaehmaa
open Go.RowKit Go.Shelf
set_option linter.unusedVariables false
set_option linter.unusedSimpArgs false
attribute [local go_sem] Oper.semAt_some wide_fn wide_round_fn

/-- What Get tells. -/
def GetPost (W : World) (F : List LE) (i : Int) (r : Ending) (w' : World) : Prop :=
  Below W.heap.size W w' ∧ ((∃ x va vc, getZ LE.k F i = some x ∧ r = .returned (.tuple #[x.L.g.val va vc, .bool true]) ∧ HasG w' va x.L.g ∧ x.L.g.l.length ≤ vc) ∨ (getZ LE.k F i = none ∧ r = .returned (.tuple #[.agg #[.int .i64 0, .int .i64 0, .int .i64 0, .int .i64 0, .int .i64 0, .int .i64 0, .slice none 0 0], .bool false])))
set_option maxRecDepth 100000 in
set_option maxHeartbeats 2000000 in
theorem lget_any {W : World} {e M : Nat} {F : List LE} (h : LedAt W e M F) (i : Int) (hi : -9223372036854775808 ≤ i ∧ i < 9223372036854775808) : Calls Try.prog 49 #[.pointer (some ⟨e, 0, none⟩), .int .i64 i] W (GetPost W F i) := by
  have hA := bel_alloc (Below.refl W.heap.size W) (.cells #[.int .i64 0, .int .i64 0, .int .i64 0, .int .i64 0, .int .i64 0, .int .i64 0, .slice none 0 0] 65)
  have hq := World.alloc_heap_new W (.cells #[.int .i64 0, .int .i64 0, .int .i64 0, .int .i64 0, .int .i64 0, .int .i64 0, .slice none 0 0] 65)
  have hA1 := h.below hA
  have c0 : (W.alloc (.cells #[.int .i64 0, .int .i64 0, .int .i64 0, .int .i64 0, .int .i64 0, .int .i64 0, .slice none 0 0] 65)).cell? ⟨e, 0, none⟩ = some (.map (some M)) := cell_of_row _ _ 0 _ _ _ hA1.box
  have hlk := hA1.map.look i (wfP hi)
  have HQ := Lib.hid hq
  have HA := Lib.hid hA
  cases hg : getZ LE.k F i with
  | none =>
    rw [hg, show lookL F i = .pointer none by unfold lookL; rw [hg]] at hlk
    have HG := Lib.hid hg
    obtain ⟨q0, q1, q2, q3, q4, q5, q6, -⟩ := cells7 hq
    have f0 := frozen_of_row _ W.heap.size 0 _ _ hq; have f1 := frozen_of_row _ W.heap.size 1 _ _ hq; have f2 := frozen_of_row _ W.heap.size 2 _ _ hq; have f3 := frozen_of_row _ W.heap.size 3 _ _ hq; have f4 := frozen_of_row _ W.heap.size 4 _ _ hq; have f5 := frozen_of_row _ W.heap.size 5 _ _ hq; have f6 := frozen_of_row _ W.heap.size 6 _ _ hq
    clear h hi hg hA1 hA hq
    go_enter Try.func49, Try.ntmps49
    go_wp2
    obtain ⟨e0, e1, e2, e3, e4, e5, e6, -⟩ := cells7 HQ.out
    refine bodyPost_ret (v := .tuple #[.agg #[.int .i64 0, .int .i64 0, .int .i64 0, .int .i64 0, .int .i64 0, .int .i64 0, .slice none 0 0], .bool false]) (by simp [results, Try.results49, go_sem, e0, e1, e2, e3, e4, e5, e6]) rfl ?_
    exact ⟨HA.out, .inr ⟨HG.out, rfl⟩⟩
  | some x =>
    rw [hg, show lookL F i = x.val by unfold lookL; rw [hg]] at hlk
    have HG := Lib.hid hg
    have HL := Lib.hid (hA1.logs x (getZ_some hg).1)
    clear h hi hg hA1 hA hq
    obtain ⟨xd, xm, ⟨⟨id, fi, te, ht, hv, hc, gl⟩, xF⟩⟩ := x
    dsimp only [LE.val] at *
    have GP := Lib.hid (fun W' (hB' : Below (W.alloc (.cells #[.int .i64 0, .int .i64 0, .int .i64 0, .int .i64 0, .int .i64 0, .int .i64 0, .slice none 0 0] 65)).heap.size (W.alloc (.cells #[.int .i64 0, .int .i64 0, .int .i64 0, .int .i64 0, .int .i64 0, .int .i64 0, .slice none 0 0] 65)) W') => (show Calls Try.prog 52 #[.pointer (some ⟨xd, 0, none⟩)] W' (fun e w' => ∃ ga gc, e = .returned (.agg #[.int .i64 id, .int .i64 fi, .int .i64 te, .int .i64 ht, .int .i64 hv, .int .i64 hc, .slice ga gl.length gc]) ∧ HasG w' ga ⟨id, fi, te, ht, hv, hc, gl⟩ ∧ gl.length ≤ gc ∧ Below W'.heap.size W' w' ∧ ∀ k, inBlkE ga gl.length k → W'.heap.size ≤ k) from by
      obtain ⟨_, a9, c9, h9⟩ := HL.out.below hB'
      exact pgroupN_any h9.g))
    go_enter Try.func49, Try.ntmps49
    go_wp2_with (go_at_call 52; ((with_reducible refine (GP.out _ (Below.refl _ _)).mono ?_); rintro r w2 ⟨ga, gc, rfl, hG, hle, hB2, hnew⟩; have hq := (hB2.block _ (heap_lt HQ.out)).trans HQ.out; have HQ2 := Lib.hid hq; obtain ⟨q0, q1, q2, q3, q4, q5, q6, -⟩ := cells7 hq; have f0 := frozen_of_row _ W.heap.size 0 _ _ hq; have f1 := frozen_of_row _ W.heap.size 1 _ _ hq; have f2 := frozen_of_row _ W.heap.size 2 _ _ hq; have f3 := frozen_of_row _ W.heap.size 3 _ _ hq; have f4 := frozen_of_row _ W.heap.size 4 _ _ hq; have f5 := frozen_of_row _ W.heap.size 5 _ _ hq; have f6 := frozen_of_row _ W.heap.size 6 _ _ hq; clear hq))
    have hs := st7_block HQ2.out (.int .i64 id) (.int .i64 fi) (.int .i64 te) (.int .i64 ht) (.int .i64 hv) (.int .i64 hc) (.slice ga gl.length gc)
    have hF := st7_frame w2 W.heap.size (.int .i64 id) (.int .i64 fi) (.int .i64 te) (.int .i64 ht) (.int .i64 hv) (.int .i64 hc) (.slice ga gl.length gc)
    obtain ⟨e0, e1, e2, e3, e4, e5, e6, -⟩ := cells7 hs
    have hBW := bel2 HA.out hB2
    refine bodyPost_ret (v := .tuple #[.agg #[.int .i64 id, .int .i64 fi, .int .i64 te, .int .i64 ht, .int .i64 hv, .int .i64 hc, .slice ga gl.length gc], .bool true]) (by simp [results, Try.results49, go_sem, e0, e1, e2, e3, e4, e5, e6]) rfl ?_
    refine ⟨hBW.trans (hF.toBelow hBW.size (fun k hk => by omega)), .inl ⟨_, ga, gc, HG.out, rfl, hasG_p hG hF (fun k hk hT => ?_), hle⟩⟩
    have := hnew k hk
    simp only [World.size_alloc] at this
    omega
def denB (F : List LE) : Bool := F.all fun x => isG x.L.g
end Go.Proofs.Ytdncdlbhgaehmaa

/- (*Ledger).Copy. -/
namespace Go.Proofs.Ytdncdlbhgaehmaa
open Go.RowKit Go.Shelf
set_option linter.unusedVariables false
attribute [local go_sem] Oper.semAt_some wide_fn wide_round_fn

theorem below_grownL {a b : World} (h : Below a.heap.size a b) : a.grownBy b none := ⟨h.os, h.tape, h.output, h.size, fun k hk _ => h.block k hk⟩
abbrev numLg (i : Int) : Lit := .int .i64 i
theorem int_of_keyOfG {P : Program} {k : TypeId} {q : IntKind} (hk : P.underlying k = some (.int q)) {v : Value} {l : Lit} (h : keyOf P k v = some l) : ∃ s : Int, v = .int q s ∧ l = .int q s := by
  rw [keyOf_int hk] at h
  unfold mapKey at h
  cases v <;> simp [hk] at h
  rename_i k n
  exact ⟨n, by rw [h.1.1], h.2.symm⟩
theorem next_logs {W : World} {m r n cnt : Nat} {left : Lit → Bool} {F : List LE} (h : W.ranges Try.prog 3 plcElem m r n (lmap F) left cnt) (ty : TypeId) :
    (cnt = 0 ∧ (∀ kl, left kl = false) ∧ (Instr.next (.pointer (some ⟨r, 0, none⟩)) false ty).run Try.prog W = .ok (.tuple #[.bool false]) W) ∨
    ∃ f w' cnt', f ∈ F ∧ left (numLg f.k) = true ∧ (Instr.next (.pointer (some ⟨r, 0, none⟩)) false ty).run Try.prog W = .ok (.tuple #[.bool true, .int .i64 f.k, .pointer (some ⟨f.d, 0, none⟩)]) w' ∧
      w'.ranges Try.prog 3 plcElem m r n (lmap F) (fun z => left z && !z.sameKey (numLg f.k)) cnt' ∧ cnt' < cnt ∧ W.grownBy w' (some r) ∧ w'.heap.size = W.heap.size ∧ (Instr.entry (.pointer (some ⟨r, 0, none⟩))).run Try.prog w' = .ok (.tuple #[.int .i64 f.k, .pointer (some ⟨f.d, 0, none⟩)]) w' := by
  rcases h.next lawP ty with h0 | ⟨key, v, kl, y, w', cnt', hkey, hlk, hv, hat, hrun, hrg, hlt, hgr, hsz, hen⟩
  · exact .inl h0
  · right
    obtain ⟨s, rfl, rfl⟩ := int_of_keyOfG Try.underlying3 hkey
    have hg : ∃ f, getZ LE.k F s = some f := by
      cases e : getZ LE.k F s with
      | some f => exact ⟨f, rfl⟩
      | none =>
        have a1 := hat .nil
        have a2 := hat (.lit (.int .i64 0))
        rw [lmap_at, e] at a1 a2
        rw [← a1] at a2; cases a2
    obtain ⟨f, hg⟩ := hg
    obtain ⟨hf, rfl⟩ := getZ_some hg
    have a1 : (DataW.held f.val : DataW Value) = y.1 := by have := hat .nil; rw [lmap_at, hg] at this; exact this
    clear hat
    have hp : v = f.val := plcElem_some (ps := y.2) (hv.trans (congrArg some (show y = (DataW.held f.val, y.2) by rw [a1])))
    subst hp
    exact ⟨f, w', cnt', hf, hlk, hrun, hrg, hlt, hgr, hsz, hen⟩
set_option maxRecDepth 100000 in
theorem wpList_next_logs {w : World} {ops : Array Oper} {rest : List Oper} {o : Oper} {a : Act} {Q : Exit → Act → World → Prop} (hg : o.guard = none) (it : Operand) (hop : o.op = Op.next it false) {m r n cnt : Nat} {left : Lit → Bool} {F : List LE}
    (hit : a.eval it = .pointer (some ⟨r, 0, none⟩)) (h : w.ranges Try.prog 3 plcElem m r n (lmap F) left cnt)
    (hDone : cnt = 0 → (∀ kl, left kl = false) → wpList Try.prog ops Q rest (a.put o.dst (.tuple #[.bool false])) w)
    (hMore : ∀ (f : LE) (w' : World) (cnt' : Nat), f ∈ F → left (numLg f.k) = true → w'.ranges Try.prog 3 plcElem m r n (lmap F) (fun z => left z && !z.sameKey (numLg f.k)) cnt' → cnt' < cnt → w.grownBy w' (some r) → w'.heap.size = w.heap.size →
      (Instr.entry (.pointer (some ⟨r, 0, none⟩))).run Try.prog w' = .ok (.tuple #[.int .i64 f.k, .pointer (some ⟨f.d, 0, none⟩)]) w' → wpList Try.prog ops Q rest (a.put o.dst (.tuple #[.bool true, .int .i64 f.k, .pointer (some ⟨f.d, 0, none⟩)])) w') :
    wpList Try.prog ops Q (o :: rest) a w := by
  refine wpList_plain hg fun K' hK' => ?_
  unfold Oper.wp
  rcases next_logs h o.type with ⟨h0, hl, hrun⟩ | ⟨f, w', cnt', hf, hl, hrun, hrg, hlt, hgr, hsz, hen⟩
  · simp [execOp, hop, hit, hrun, Result.andThen]
    exact hK' _ _ (hDone h0 hl)
  · simp [execOp, hop, hit, hrun, Result.andThen]
    exact hK' _ _ (hMore f w' cnt' hf hl hrg hlt hgr hsz hen)
theorem ris_mem_ext {A B : List LG} (hA : RisZ LG.n A) (hB : RisZ LG.n B) (h : ∀ x, x ∈ A ↔ x ∈ B) : A = B := by
  refine risZ_ext (nm := LG.n) hA hB (fun i => ?_)
  cases h1 : getZ LG.n A i with
  | some x =>
    obtain ⟨hx, rfl⟩ := getZ_some h1
    exact (risZ_get hB ((h x).1 hx)).symm
  | none =>
    cases h2 : getZ LG.n B i with
    | none => rfl
    | some x =>
      obtain ⟨hx, rfl⟩ := getZ_some h2
      rw [risZ_get hA ((h x).2 hx)] at h1; cases h1
theorem put_filterL {A : List LG} (hA : RisZ LG.n A) {left : Lit → Bool} {x : LG} (hx : x ∈ A) (hl : left (numLg x.n) = true) : putZ LG.n x (A.filter fun L => !left (numLg L.n)) = A.filter fun L => !(left (numLg L.n) && !(numLg L.n).sameKey (numLg x.n)) := by
  refine ris_mem_ext (risZ_put (hA.sublist List.filter_sublist) x) (hA.sublist List.filter_sublist) (fun L => ?_)
  have huniq : L ∈ A → L.n = x.n → L = x := fun hL hn => by
    have h1 := risZ_get hA hL
    rw [hn, risZ_get hA hx] at h1
    exact (Option.some.inj h1).symm
  rw [mem_putZ, List.mem_filter, List.mem_filter, same_idx]
  by_cases hn : L.n = x.n
  · constructor
    · rintro (rfl | ⟨-, h2⟩)
      · exact ⟨hx, by simp⟩
      · exact absurd hn h2
    · rintro ⟨h1, -⟩; exact .inl (huniq h1 hn)
  · constructor
    · rintro (rfl | ⟨⟨h1, h2⟩, -⟩)
      · exact absurd rfl hn
      · refine ⟨h1, ?_⟩
        rw [decide_eq_false hn]; simpa using h2
    · rintro ⟨h1, h2⟩
      refine .inr ⟨⟨h1, ?_⟩, hn⟩
      rw [decide_eq_false hn] at h2; simpa using h2
/-- A map's iterator is none of a ledger's blocks, nor a row's. -/
theorem LedAt.iter {W W' : World} {e M r : Nat} {G : List LE} (h : LedAt W e M G) {mb : Option Nat} {s c : Nat} {z : Array Nat} (hr : W.heap[r]? = some (.mapIter mb s z c)) (hg : W.grownBy W' (some r)) : LedAt W' e M G := by
  have hF : FrameT (fun k => k = r) W W' := grown_frame hg
  refine h.frame hF (fun k hk hkr => ?_) (fun a l hrow k hk hkr => ?_)
  · subst hkr
    rcases hk with rfl | rfl | ⟨x, hx, rfl | rfl⟩
    · rw [h.box] at hr; cases hr
    · obtain ⟨es, ck, hm⟩ := h.map.block
      rw [hm] at hr; cases hr
    · obtain ⟨_, a2, c2, h2⟩ := h.logs x hx
      rw [h2.1] at hr; cases hr
    · obtain ⟨_, a2, c2, h2⟩ := h.logs x hx
      obtain ⟨es, ck, hm⟩ := h2.2.1.block
      rw [hm] at hr; cases hr
  · subst hkr
    obtain ⟨k, off, he, h0, rfl⟩ := hk
    obtain ⟨b2, off2, e2, _, hc⟩ := hrow.2.2 h0
    have e3 := he.symm.trans e2
    cases e3
    have hl : (entryCells l).length = l.length * 3 := hrow.1
    obtain ⟨o, ho, hcl⟩ := isCells_of_cell (hc 0 (by omega))
    have ho2 : W.heap[k]? = some o := ho
    rw [hr] at ho2; cases ho2; cases hcl
set_option maxRecDepth 100000 in
set_option maxHeartbeats 2000000 in
theorem lcopy_any {w : World} {e m : Nat} {F : List LE} (h : LedAt w e m F) (hF : F.length ≤ 1000) :
    Calls Try.prog 47 #[.pointer (some ⟨e, 0, none⟩)] w fun r w' => ∃ e2 M2 G, r = .returned (.pointer (some ⟨e2, 0, none⟩)) ∧ LedAt w' e2 M2 G ∧ G.map LE.L = F.map LE.L ∧ (∀ k, ownLg G e2 M2 k → w.heap.size ≤ k) ∧ Below w.heap.size w w' := by
  have HD := Lib.hid h
  have GN := Lib.hid (fun W => lnew_any W)
  have hml := h.map.lt
  have HML := Lib.hid hml
  clear h hml
  go_enter Try.func47, Try.ntmps47
  go_wp2_with (first
    | (go_at_call 26; ((with_reducible refine (GN.out _).mono ?_); rintro r wn ⟨rfl, hN, hBn⟩; have HN := Lib.hid hN; have hDn := HD.out.below hBn; have HA := Lib.hid hBn; have HDn := Lib.hid hDn; have c0 : wn.cell? ⟨e, 0, none⟩ = some (.map (some m)) := cell_of_row _ _ 0 _ _ _ hDn.box; have hmap := hDn.map; clear hN hBn hDn))
    | (at_range; refine wpList_range_own _ rfl _ 87 rfl 3 91 lawP Try.underlying87 plcElem m F.length (lmap F) rfl hmap ?_; intro w0 hrg0 hg0 hs0))
  go_frame
  have HWN := Lib.hid (show w.heap.size + 2 ≤ wn.heap.size from by have := heap_lt HN.out.box; omega)
  obtain ⟨r, hr⟩ : ∃ r, r = wn.heap.size := ⟨_, rfl⟩
  rw [← hr] at hrg0 hs0 ⊢
  have HRW := Lib.hid hr
  clear hr
  go_loopw [] (fun wr => ∃ (left : Lit → Bool) (cnt : Nat) (G : List LE), wr.ranges Try.prog 3 plcElem m r F.length (lmap F) left cnt ∧ LedAt wr (w.heap.size + 1) w.heap.size G ∧ G.map LE.L = (F.map LE.L).filter (fun L => !left (numLg L.n)) ∧ (∀ k, ownLg G (w.heap.size + 1) w.heap.size k → w.heap.size ≤ k) ∧ Below w.heap.size w wr)
    (fun wr => wr.rangeLeft m r)
  case atStart =>
    refine ⟨_, _, [], hrg0, ?_, ?_, ?_, HA.out.grown hg0 (by have := HWN.out; omega) (fun j hj => by cases hj)⟩
    · have hFg : FrameT (fun k => False) wn w0 := ⟨hg0.os, hg0.tape, hg0.output, hg0.size, fun k hk _ => hg0.block k hk (by simp)⟩
      exact HN.out.frame hFg (fun _ _ => id) (fun _ _ _ _ _ => id)
    · symm
      rw [List.map_nil, List.filter_eq_nil_iff]
      intro L hL
      obtain ⟨x, hx, rfl⟩ := List.mem_map.1 hL
      rw [show Maps.has (lmap F) (numLg x.L.n) = (getZ LE.k F x.k).isSome from lmap_has F x.k, risZ_get HD.out.ris hx]; simp
    · rintro k (rfl | rfl | ⟨x, hx, -⟩)
      · omega
      · omega
      · cases hx
  case round =>
    obtain ⟨left, cnt, G, hrg, hG, hGL, hGo, hB⟩ := hrel
    have HB := Lib.hid hB
    have HG := Lib.hid hG
    have HGL := Lib.hid hGL
    have HGO := Lib.hid hGo
    clear hB hG hGL hGo
    go_wp2_with (at_next; refine wpList_next_logs rfl _ rfl rfl hrg ?_ ?_)
    · intro hc0 hl0
      have HE := Lib.hid (show ((F.map LE.L).filter fun L => !left (numLg L.n)) = F.map LE.L by rw [List.filter_eq_self]; intro p _; rw [hl0]; rfl)
      clear hc0 hl0
      go_wp2
      go_ret
      exact ⟨_, _, G, rfl, HG.out, HGL.out.trans HE.out, HGO.out, HB.out⟩
    · intro f w1 cnt1 hf hl hrg1 hlt hg1 hs1 hen
      have hB1 : Below w.heap.size w w1 := HB.out.grown hg1 HB.out.size (fun j hj => by have := Option.some.inj hj; have := HRW.out; have := HWN.out; omega)
      have hG1 : LedAt w1 (w.heap.size + 1) w.heap.size G := by
        obtain ⟨es, clock, since, seen, z0, -, -, -, -, hr, -⟩ := hrg
        exact HG.out.iter hr hg1
      have hno : getZ LE.k G f.k = none := by
        cases hq : getZ LE.k G f.k with
        | none => rfl
        | some y =>
          obtain ⟨hy, hyk⟩ := getZ_some hq
          have : y.L ∈ (F.map LE.L).filter (fun L => !left (numLg L.n)) := by rw [← HGL.out]; exact List.mem_map.2 ⟨y, hy, rfl⟩
          have h2 := (List.mem_filter.1 this).2
          rw [show y.L.n = f.k from hyk, hl] at h2
          cases h2
      have GC := Lib.hid (fun W' (hB' : Below w1.heap.size w1 W') => pcopyS_any (((HD.out.below hB1).logs f hf).below hB'))
      have hid := HD.out.ids f hf
      have q0 : w1.cell? ⟨w.heap.size + 1, 0, none⟩ = some (.map (some w.heap.size)) := cell_of_row _ _ 0 _ _ _ hG1.box
      have hGl : G.length ≤ 1000 := by
        have h9 := congrArg List.length HGL.out
        rw [List.length_map] at h9
        rw [h9]
        exact Nat.le_trans (List.length_filter_le _ _) (by rw [List.length_map]; exact hF)
      have hGm : G.length < maxLen := by unfold maxLen; omega
      have hkey := Maps.keyOf_int_mk Try.underlying3 (wfP (n := f.k) ⟨by omega, by omega⟩)
      have HG1 := Lib.hid hG1
      have HB1 := Lib.hid hB1
      have HR1 := Lib.hid hrg1
      have HNO := Lib.hid hno
      have HID := Lib.hid hid
      have HM := Lib.hid (show cnt1 < wr.rangeLeft m r by rw [hrg.left_eq]; exact hlt)
      have HPF := Lib.hid (put_filterL HD.out.risL (List.mem_map.2 ⟨f, hf, rfl⟩) hl)
      clear hG1 hB1 hg1 hrg1 hrg hlt hl hf hno hid hmap hg0 hs0 hrg0 hGl
      obtain ⟨fd, fm, fL⟩ := f
      dsimp only [LE.val, LE.k] at *
      go_wp2
      go_region_held3 (fun W' => W'.cell? ⟨w.heap.size + 1, 0, none⟩ = some (.map (some w.heap.size))) (go_keep) (first
        | (go_at_call 74; (with_reducible refine (GC.out _ ?hb).mono ?_); (case hb => first | exact Below.refl _ _ | exact (Below.refl _ _).drew); rintro r4 w4 ⟨d', m', rfl, h1, h2, hL4, hB4⟩; have hB4' : Below w1.heap.size w1 w4 := (by first | exact hB4 | exact (Below.refl w1.heap.size w1).drew.trans hB4); have h1' : w1.heap.size ≤ m' := h1; have hG4 := HG1.out.below hB4'; obtain ⟨w5, hrun5, hown5, hturn5⟩ := hG4.map.store lawP Try.underlying87 hGm hkey (show plcElem (.pointer (some ⟨d', 0, none⟩)) = some (.held (.pointer (some ⟨d', 0, none⟩)), []) from rfl); have t0 : w4.cell? ⟨w.heap.size + 1, 0, none⟩ = some (.map (some w.heap.size)) := cell_of_row _ _ 0 _ _ _ hG4.box; have hF5 := turned_frame hturn5; have ho5 := LedAt.add (x := ⟨d', m', fL⟩) HG1.out hB4' hL4 ⟨(show w1.heap.size ≤ d' by omega), h1'⟩ HID.out HNO.out hF5 (HasLm.put ⟨d', m', fL⟩ hown5); have u0 : w5.cell? ⟨w.heap.size + 1, 0, none⟩ = some (.map (some w.heap.size)) := cell_of_row _ _ 0 _ _ _ ho5.1.box; have H5 := Lib.hid ho5; have H4 := Lib.hid (And.intro hB4' hturn5); clear hL4 hB4 hB4' hG4 hown5 hturn5 hF5 ho5))
      obtain ⟨hB4, hturn5⟩ := H4.out
      have hr5 := Lib.hid ((HR1.out.kept (below_grownL hB4) (by simp) (by simp)).kept hturn5.grown (fun e => by have := Option.some.inj e; have := HWN.out; have := HRW.out; have := HML.out; omega) (fun e => by have := Option.some.inj e; have := HWN.out; have := HRW.out; have := HML.out; omega))
      have hb5 := Lib.hid ((bel2 HB1.out hB4).grown hturn5.grown (by have h1 := hB4.size; have h2 := HB1.out.size; omega) (fun j hj => by have := Option.some.inj hj; omega))
      have hGL5 := Lib.hid (show (putZ LE.k ⟨d', m', fL⟩ G).map LE.L = (F.map LE.L).filter (fun L => !(left (numLg L.n) && !(numLg L.n).sameKey (numLg fL.n))) by
        rw [putZ_map (nm := LE.k) (nb := LG.n) (g := LE.L) (fun _ => rfl), HGL.out]
        exact HPF.out)
      have hGO5 := Lib.hid (show ∀ k, ownLg (putZ LE.k ⟨d', m', fL⟩ G) (w.heap.size + 1) w.heap.size k → w.heap.size ≤ k from fun k hk => by
        rcases H5.out.2.2 k hk with h | h
        · exact HGO.out k h
        · have := HB1.out.size; omega)
      clear hB4 hturn5 t0 u0 q0
      go_wp2
      go_roundw
      case rel => exact ⟨_, cnt1, _, hr5.out, H5.out.1, hGL5.out, hGO5.out, hb5.out⟩
      case measure => rw [hr5.out.left_eq]; exact HM.out

end Go.Proofs.Ytdncdlbhgaehmaa

/- ledger.Same, and the comparisons it makes. -/
namespace Go.Proofs.Ytdncdlbhgaehmaa
open Go.RowKit Go.Shelf
set_option linter.unusedVariables false
set_option linter.unusedSimpArgs false
attribute [local go_sem] Oper.semAt_some wide_fn wide_round_fn

theorem spot_atL {w W : World} {b off : Nat} {l : List SpotC} (hb : b < w.heap.size) (hB : Below w.heap.size w W) (hc : ∀ j (h : j < (spotCells l).length), w.cell? ⟨b, off + j, none⟩ = some (spotCells l)[j]) {k : Nat} (hk : k < l.length) :
    W.cell? ⟨b, off + k * 4, none⟩ = some (.int .i64 l[k].g) ∧ W.cell? ⟨b, off + k * 4 + 1, none⟩ = some (.int .i64 l[k].i) ∧ W.cell? ⟨b, off + k * 4 + 2, none⟩ = some (.int .i64 l[k].s) ∧ W.cell? ⟨b, off + k * 4 + 3, none⟩ = some (.int .i64 l[k].p) := by
  have cell : ∀ i v, i < 4 → (l[k].cells)[i]? = some v → W.cell? ⟨b, off + (k * 4 + i), none⟩ = some v := fun i v hi hv =>
    (hB.cell (p := ⟨b, off + (k * 4 + i), none⟩) hb).trans (RowV.at_ (len := l.length) (sz := 4) hc (by rw [spotCells, flat_at SpotC.cells 4 SpotC.len l k i hk hi]; exact hv))
  exact ⟨cell 0 _ (by decide) rfl, cell 1 _ (by decide) rfl, cell 2 _ (by decide) rfl, cell 3 _ (by decide) rfl⟩
instance : DecidableEq SpotC := fun x y => if h : x.g = y.g ∧ x.i = y.i ∧ x.s = y.s ∧ x.p = y.p then isTrue (by
    obtain ⟨a, b, c, d⟩ := x
    obtain ⟨e, f, g, k⟩ := y
    obtain ⟨h1, h2, h3, h4⟩ := h
    dsimp only at h1 h2 h3 h4
    rw [h1, h2, h3, h4]) else isFalse (fun e => h (by rw [e]; exact ⟨rfl, rfl, rfl, rfl⟩))
set_option maxRecDepth 100000 in
theorem eqSpotL (x y : SpotC) (w : World) : (Op.equalIn 10000 86 (.agg #[.int .i64 x.g, .int .i64 x.i, .int .i64 x.s, .int .i64 x.p]) (.agg #[.int .i64 y.g, .int .i64 y.i, .int .i64 y.s, .int .i64 y.p])).run Try.prog w = .ok (decide (x = y)) w := by
  have hS : Try.prog.underlying 86 = some (.struct (Try.prog.fieldsOf 86)) := by kernel_rfl
  have hS2 : Try.prog.underlying 34 = some (.struct (Try.prog.fieldsOf 34)) := by kernel_rfl
  obtain ⟨a, b, c, d⟩ := x
  obtain ⟨e, f, g, h⟩ := y
  rw [show (10000 : Nat) = 9999 + 1 from rfl, run_equalIn_agg w 9999 86 _ _ hS (by kernel_rfl)]
  simp only [Program.fieldsOf, Try.underlying86]
  have h2 : ∀ c d g h : Int, (Op.equalIn 9999 34 (.agg #[.int .i64 c, .int .i64 d]) (.agg #[.int .i64 g, .int .i64 h])).run Try.prog w = .ok (decide (c = g) && decide (d = h)) w := fun c d g h => by
    rw [show (9999 : Nat) = 9998 + 1 from rfl, run_equalIn_agg w 9998 34 _ _ hS2 (by kernel_rfl)]
    simp only [Program.fieldsOf, Try.underlying34]
    clear hS hS2
    go_simp
    by_cases h1 : c = g <;> by_cases h2 : d = h <;> simp [h1, h2]
  clear hS hS2
  go_simp
  by_cases h1 : a = e <;> by_cases h3 : b = f <;> by_cases h4 : c = g <;> by_cases h5 : d = h <;> simp [h1, h3, h4, h5, h2]
theorem neqSpotL (x y : SpotC) (w : World) : (binOp .neq 86 (.agg #[.int .i64 x.g, .int .i64 x.i, .int .i64 x.s, .int .i64 x.p]) (.agg #[.int .i64 y.g, .int .i64 y.i, .int .i64 y.s, .int .i64 y.p])).run Try.prog w = .ok (.bool (!(decide (x = y)))) w := by
  rw [run_neq_struct, eqSpotL]; rfl
theorem eqlSpotL (x y : SpotC) (w : World) : (binOp .eql 86 (.agg #[.int .i64 x.g, .int .i64 x.i, .int .i64 x.s, .int .i64 x.p]) (.agg #[.int .i64 y.g, .int .i64 y.i, .int .i64 y.s, .int .i64 y.p])).run Try.prog w = .ok (.bool (decide (x = y))) w := by
  rw [run_eql_struct, eqSpotL]; rfl
set_option maxRecDepth 100000 in
set_option maxHeartbeats 1000000 in
theorem equalS_any (a b : Option Addr) (n1 n2 c1 c2 : Nat) (l m : List SpotC) (hl : l.length = n1) (hm : m.length = n2) (hn1 : n1 < 1000000) (hn2 : n2 < 1000000) (w : World) (h1 : RowV w a n1 4 (spotCells l)) (h2 : RowV w b n2 4 (spotCells m)) :
    Gives Try.prog 43 #[.slice a n1 c1, .slice b n2 c2] w (.bool (decide (l = m))) := by
  have hc1 := h1.2.2
  have hc2 := h2.2.2
  clear h1 h2
  unfold Gives
  by_cases hne : n1 = n2
  · subst hne
    go_enter Try.func43, Try.ntmps43
    go_wp2
    go_loopw [13] (fun i wr => ∃ k : Nat, k ≤ n1 ∧ i = .int .i64 k ∧ l.take k = m.take k ∧ Below w.heap.size w wr) (fun i _ => n1 - (intOf i).toNat)
    case atStart => exact ⟨0, by omega, rfl, rfl, Below.refl _ _⟩
    case round =>
      obtain ⟨k, hk, rfl, ht, hB⟩ := hrel
      have HT := Lib.hid ht
      clear ht
      by_cases hlt : k < n1
      · obtain ⟨b1, o1, rfl, hb1, hx1⟩ := hc1 (by omega)
        obtain ⟨b2, o2, rfl, hb2, hx2⟩ := hc2 (by omega)
        have hkl : k < l.length := by omega
        have hkm : k < m.length := by omega
        obtain ⟨d0, d1, d2, d3⟩ := spot_atL hb1 hB hx1 hkl
        obtain ⟨f0, f1, f2, f3⟩ := spot_atL hb2 hB hx2 hkm
        have HS := Lib.hid (show l[k] = m[k] → l.take (k + 1) = m.take (k + 1) by intro h; rw [List.take_succ_eq_append_getElem hkl, List.take_succ_eq_append_getElem hkm, HT.out, h])
        have HN := Lib.hid (show l[k] ≠ m[k] → decide (l = m) = false by intro h; simp; rintro rfl; exact h rfl)
        clear hx1 hx2
        generalize l[k] = x at *
        generalize m[k] = y at *
        have hne := fun w => neqSpotL x y w
        by_cases hxy : x = y
        · rw [decide_eq_true hxy] at hne
          have HS' := Lib.hid (HS.out hxy)
          clear HS HN
          subst hxy
          go_wp2
          go_quiet (fail)
          go_wp2
          go_roundw
          case rel => exact ⟨k + 1, by omega, by go_num, HS'.out, below_drewN hB _⟩
          case measure => simp [intOf]; omega
        · rw [decide_eq_false hxy] at hne
          have HN' := Lib.hid (HN.out hxy)
          clear HS HN hxy
          go_wp2
          go_quiet (fail)
          go_wp2
          go_ret
          exact ⟨by rw [HN'.out]; rfl, below_drewN hB _⟩
      · obtain rfl : k = n1 := by omega
        have HV := Lib.hid (show decide (l = m) = true by
          have := HT.out
          rw [List.take_of_length_le (by omega), List.take_of_length_le (by omega)] at this
          simp [this])
        go_wp2
        go_ret
        exact ⟨by rw [HV.out]; rfl, hB⟩
  · have HV := Lib.hid (show decide (l = m) = false by simp; rintro rfl; omega)
    go_enter Try.func43, Try.ntmps43
    go_wp2
    go_ret
    exact ⟨by rw [HV.out]; rfl, Below.refl _ _⟩


theorem lvCells_len : ∀ L : List GVL, (lvCells L).length = L.length * 7
  | [] => rfl
  | x :: r => by
    have := lvCells_len r
    unfold lvCells at this ⊢
    rw [List.flatMap_cons, List.length_append, this]
    show 7 + r.length * 7 = (r.length + 1) * 7
    omega
/-- A row of groups, as Groups tells it. -/
def GrpsAt (W : World) (a : Option Addr) (n : Nat) (Gs : List GVL) : Prop := Gs.length = n ∧ n < 1000000 ∧ RowV W a n 7 (lvCells Gs) ∧ ∀ x, x ∈ Gs → HasG W x.a x.g ∧ x.g.l.length ≤ x.c
theorem GrpsAt.below {W W' : World} {a : Option Addr} {n : Nat} {Gs : List GVL} (h : GrpsAt W a n Gs) (hB : Below W.heap.size W W') : GrpsAt W' a n Gs := ⟨h.1, h.2.1, h.2.2.1.below hB, fun x hx => ⟨⟨(h.2.2.2 x hx).1.1, (h.2.2.2 x hx).1.2.below hB⟩, (h.2.2.2 x hx).2⟩⟩
theorem grp_atL {w W : World} {b off : Nat} {L : List GVL} (hb : b < w.heap.size) (hB : Below w.heap.size w W) (hc : ∀ j (h : j < (lvCells L).length), w.cell? ⟨b, off + j, none⟩ = some (lvCells L)[j]) {k : Nat} (hk : k < L.length) :
    ∀ j v, j < 7 → ((L[k].g.arr L[k].a L[k].c).toList)[j]? = some v → W.cell? ⟨b, off + k * 7 + j, none⟩ = some v := fun j v hj hv => by
  rw [Nat.add_assoc]
  have hf : lvCells L = (L.map fun x => (x.g.arr x.a x.c).toList).flatten := by unfold lvCells; rw [List.flatMap_def]
  exact (hB.cell (p := ⟨b, off + (k * 7 + j), none⟩) hb).trans (RowV.at_ (len := L.length) (sz := 7) hc (by rw [hf, flat_at (fun x : GVL => (x.g.arr x.a x.c).toList) 7 (fun _ => rfl) L k j hk hj]; exact hv))
set_option maxRecDepth 100000 in
set_option maxHeartbeats 2000000 in
theorem equalG_any (a b : Option Addr) (n1 n2 c1 c2 : Nat) (l m : List GVL) (w : World) (h1 : GrpsAt w a n1 l) (h2 : GrpsAt w b n2 m) :
    Gives Try.prog 41 #[.slice a n1 c1, .slice b n2 c2, .func (.func 42) #[] #[]] w (.bool (decide (l.map GVL.g = m.map GVL.g))) := by
  have hl := h1.1
  have hm := h2.1
  have hn1 := h1.2.1
  have hn2 := h2.2.1
  have hc1 := h1.2.2.1.2.2
  have hc2 := h2.2.2.1.2.2
  have H1 := Lib.hid (fun W (hB : Below w.heap.size w W) => h1.below hB)
  have H2 := Lib.hid (fun W (hB : Below w.heap.size w W) => h2.below hB)
  clear h1 h2
  unfold Gives
  by_cases hne : n1 = n2
  · subst hne
    go_enter Try.func41, Try.ntmps41
    go_wp2
    go_loopw [17] (fun i wr => ∃ k : Nat, k ≤ n1 ∧ i = .int .i64 k ∧ (l.map GVL.g).take k = (m.map GVL.g).take k ∧ Below w.heap.size w wr) (fun i _ => n1 - (intOf i).toNat)
    case atStart => exact ⟨0, by omega, rfl, rfl, Below.refl _ _⟩
    case round =>
      obtain ⟨k, hk, rfl, ht, hB⟩ := hrel
      have HT := Lib.hid ht
      clear ht
      by_cases hlt : k < n1
      · obtain ⟨b1, o1, rfl, hb1, hx1⟩ := hc1 (by omega)
        obtain ⟨b2, o2, rfl, hb2, hx2⟩ := hc2 (by omega)
        have hkl : k < l.length := by omega
        have hkm : k < m.length := by omega
        have C1 := fun W (hW : Below w.heap.size w W) => grp_atL hb1 hW hx1 hkl
        have C2 := fun W (hW : Below w.heap.size w W) => grp_atL hb2 hW hx2 hkm
        have HS := Lib.hid (show l[k].g = m[k].g → (l.map GVL.g).take (k + 1) = (m.map GVL.g).take (k + 1) by intro h; rw [List.take_succ_eq_append_getElem (by simpa using hkl), List.take_succ_eq_append_getElem (by simpa using hkm), HT.out, List.getElem_map, List.getElem_map, h])
        have HN := Lib.hid (show l[k].g ≠ m[k].g → decide (l.map GVL.g = m.map GVL.g) = false by
          intro h
          rw [decide_eq_false_iff_not]
          intro e
          have e2 : (l.map GVL.g)[k]? = (m.map GVL.g)[k]? := by rw [e]
          rw [List.getElem?_map, List.getElem?_map, List.getElem?_eq_getElem hkl, List.getElem?_eq_getElem hkm] at e2
          exact h (Option.some.inj e2))
        have GS := Lib.hid (fun W (hW : Below w.heap.size w W) => (show Gives Try.prog 42 #[l[k].g.val l[k].a l[k].c, m[k].g.val m[k].a m[k].c] W (.bool (sameG l[k].g m[k].g)) from
          grpSame_any l[k].g.id l[k].g.fi l[k].g.te l[k].g.ht l[k].g.hv l[k].g.hc l[k].g.l l[k].a l[k].c m[k].g.id m[k].g.fi m[k].g.te m[k].g.ht m[k].g.hv m[k].g.hc m[k].g.l m[k].a m[k].c W (((H1.out W hW).2.2.2 _ (List.getElem_mem hkl)).1) (((H2.out W hW).2.2.2 _ (List.getElem_mem hkm)).1)))
        clear hx1 hx2
        generalize l[k] = x at *
        generalize m[k] = y at *
        obtain ⟨⟨xid, xfi, xte, xht, xhv, xhc, xl⟩, xa, xc⟩ := x
        obtain ⟨⟨yid, yfi, yte, yht, yhv, yhc, yl⟩, ya, yc⟩ := y
        have C1 := Lib.hid C1
        have C2 := Lib.hid C2
        dsimp only [GM.val, GM.arr] at *
        have CC := Lib.hid (fun W (hW : Below w.heap.size w W) => And.intro (And.intro (C1.out W hW 0 _ (by decide) rfl) (And.intro (C1.out W hW 1 _ (by decide) rfl) (And.intro (C1.out W hW 2 _ (by decide) rfl) (And.intro (C1.out W hW 3 _ (by decide) rfl) (And.intro (C1.out W hW 4 _ (by decide) rfl) (And.intro (C1.out W hW 5 _ (by decide) rfl) (C1.out W hW 6 _ (by decide) rfl))))))) (And.intro (C2.out W hW 0 _ (by decide) rfl) (And.intro (C2.out W hW 1 _ (by decide) rfl) (And.intro (C2.out W hW 2 _ (by decide) rfl) (And.intro (C2.out W hW 3 _ (by decide) rfl) (And.intro (C2.out W hW 4 _ (by decide) rfl) (And.intro (C2.out W hW 5 _ (by decide) rfl) (C2.out W hW 6 _ (by decide) rfl))))))))
        obtain ⟨⟨d0, d1, d2, d3, d4, d5, d6⟩, -⟩ := CC.out wr hB
        obtain ⟨-, f0, f1, f2, f3, f4, f5, f6⟩ := CC.out (wr.alloc (.cells #[.int .i64 xid, .int .i64 xfi, .int .i64 xte, .int .i64 xht, .int .i64 xhv, .int .i64 xhc, .slice xa xl.length xc] 65)) (bel2 hB (bel_alloc (Below.refl _ _) _))
        rw [Nat.add_zero] at d0 f0
        have hBa := bel2 hB (bel_alloc (bel_alloc (Below.refl wr.heap.size wr) (.cells #[.int .i64 xid, .int .i64 xfi, .int .i64 xte, .int .i64 xht, .int .i64 xhv, .int .i64 xhc, .slice xa xl.length xc] 65)) (.cells #[.int .i64 yid, .int .i64 yfi, .int .i64 yte, .int .i64 yht, .int .i64 yhv, .int .i64 yhc, .slice ya yl.length yc] 65))
        have HBa := Lib.hid hBa
        clear hBa C1 C2
        by_cases hxy : sameG ⟨xid, xfi, xte, xht, xhv, xhc, xl⟩ ⟨yid, yfi, yte, yht, yhv, yhc, yl⟩ = true
        · rw [hxy] at GS
          have HS' := Lib.hid (HS.out (of_decide_eq_true hxy))
          clear HS HN hxy
          go_wp2_with (go_at_call 42; ((with_reducible refine (GS.out _ HBa.out).mono ?_); rintro r w2 ⟨rfl, hB2⟩))
          go_roundw
          case rel => exact ⟨k + 1, by omega, by go_num, HS'.out, bel2 HBa.out hB2⟩
          case measure => simp [intOf]; omega
        · have hxf : sameG ⟨xid, xfi, xte, xht, xhv, xhc, xl⟩ ⟨yid, yfi, yte, yht, yhv, yhc, yl⟩ = false := by simpa using hxy
          rw [hxf] at GS
          have HN' := Lib.hid (HN.out (fun e => hxy (by rw [e]; exact decide_eq_true rfl)))
          clear HS HN hxy hxf
          go_wp2_with (go_at_call 42; ((with_reducible refine (GS.out _ HBa.out).mono ?_); rintro r w2 ⟨rfl, hB2⟩))
          go_ret
          exact ⟨by rw [HN'.out]; rfl, bel2 HBa.out hB2⟩
      · obtain rfl : k = n1 := by omega
        have HV := Lib.hid (show decide (l.map GVL.g = m.map GVL.g) = true by
          have := HT.out
          rw [List.take_of_length_le (by rw [List.length_map]; omega), List.take_of_length_le (by rw [List.length_map]; omega)] at this
          simp [this])
        go_wp2
        go_ret
        exact ⟨by rw [HV.out]; rfl, hB⟩
  · have HV := Lib.hid (show decide (l.map GVL.g = m.map GVL.g) = false by
      rw [decide_eq_false_iff_not]; intro e; have := congrArg List.length e; simp at this; omega)
    go_enter Try.func41, Try.ntmps41
    go_wp2
    go_ret
    exact ⟨by rw [HV.out]; rfl, Below.refl _ _⟩

end Go.Proofs.Ytdncdlbhgaehmaa

/- A ledger as one state: its blocks, what its calls tell (package ledger). -/
namespace Go.Proofs.Ytdncdlbhgaehmaa
open Go.RowKit Go.Shelf
set_option linter.unusedVariables false
attribute [local go_sem] Oper.semAt_some wide_fn wide_round_fn

theorem lgrps_any {w : World} {d m : Nat} {F : List LE} (h : LedAt w d m F) (hF : F.length ≤ 1000) : Calls Try.prog 30 #[.pointer (some ⟨d, 0, none⟩)] w fun e w' => ∃ a c Gs, e = .returned (.slice a F.length c) ∧ GrpsAt w' a F.length Gs ∧ Gs.map GVL.g = F.map (fun x => x.L.g) ∧ Below w.heap.size w w' := by
  refine (lall_any h hF).mono ?_
  rintro e w' ⟨v, Gs, rfl, h1, h2, h3, h4⟩
  obtain ⟨a, c, rfl, -, hr⟩ := rowV_own h2
  rw [List.length_map] at hr
  have hl : Gs.length = F.length := by have := congrArg List.length h1; rwa [List.length_map, List.length_map] at this
  exact ⟨a, c, Gs, by rw [List.length_map], ⟨hl, by omega, hr, h3⟩, h1, h4⟩
theorem lspots_any {w : World} {d m N : Nat} {F : List LE} (h : LedAt w d m F) (hF : F.length ≤ 1000) (hok : okA N (F.map LE.L)) (hN : N ≤ 10000) : Calls Try.prog 32 #[.pointer (some ⟨d, 0, none⟩)] w fun e w' => ∃ a c, e = .returned (.slice a (fl F).length c) ∧ RowV w' a (fl F).length 4 (spotCells (fl F)) ∧ Below w.heap.size w w' := by
  refine (sall_any h hF hok hN).mono ?_
  rintro e w' ⟨v, rfl, h2, h4⟩
  obtain ⟨a, c, rfl, -, hr⟩ := rowV_own h2
  exact ⟨a, c, rfl, hr, h4⟩
def sameLB (F F2 : List LE) : Bool := decide (F.map (fun x => x.L.g) = F2.map (fun x => x.L.g)) && decide (fl F = fl F2)
set_option maxRecDepth 100000 in
set_option maxHeartbeats 2000000 in
theorem lsame_any {w : World} {e M e2 M2 N : Nat} {F F2 : List LE} (h : LedAt w e M F) (h2 : LedAt w e2 M2 F2) (hF : F.length ≤ 1000) (hF2 : F2.length ≤ 1000) (hok : okA N (F.map LE.L)) (hok2 : okA N (F2.map LE.L)) (hN : N ≤ 10000) (hs : F.length * (N + 2) < 1000000) (hs2 : F2.length * (N + 2) < 1000000) :
    Calls Try.prog 23 #[.pointer (some ⟨e, 0, none⟩), .pointer (some ⟨e2, 0, none⟩)] w fun r w' => r = .returned (.bool (sameLB F F2)) ∧ Below w.heap.size w w' := by
  have hl1 := fl_len hok
  have hl2 := fl_len hok2
  have G1 := Lib.hid (fun W (hB : Below w.heap.size w W) => lgrps_any (h.below hB) hF)
  have G2 := Lib.hid (fun W (hB : Below w.heap.size w W) => lgrps_any (h2.below hB) hF2)
  have S1 := Lib.hid (fun W (hB : Below w.heap.size w W) => lspots_any (h.below hB) hF hok hN)
  have S2 := Lib.hid (fun W (hB : Below w.heap.size w W) => lspots_any (h2.below hB) hF2 hok2 hN)
  have GE := Lib.hid (fun W a n c Gs a2 n2 c2 Gs2 (hg : GrpsAt W a n Gs) (hg2 : GrpsAt W a2 n2 Gs2) => equalG_any a a2 n n2 c c2 Gs Gs2 W hg hg2)
  have SE := Lib.hid (fun W a c a2 c2 (hr : RowV W a (fl F).length 4 (spotCells (fl F))) (hr2 : RowV W a2 (fl F2).length 4 (spotCells (fl F2))) => equalS_any a a2 _ _ c c2 (fl F) (fl F2) rfl rfl (by omega) (by omega) W hr hr2)
  unfold sameLB
  clear h h2 hok hok2 hl1 hl2 hs hs2 hF hF2 hN
  generalize fl F = X at *
  generalize fl F2 = Y at *
  generalize F.map (fun x => x.L.g) = A at *
  generalize F2.map (fun x => x.L.g) = B at *
  generalize F.length = n1 at *
  generalize F2.length = n2 at *
  unfold Gives at *
  by_cases hAB : A = B
  · have HAB := Lib.hid hAB
    rw [decide_eq_true hAB]
    clear hAB
    go_enter Try.func23, Try.ntmps23
    go_wp2_with (first
      | (go_at_call 30; ((with_reducible refine (G2.out _ hB1).mono ?_); rintro r w2 ⟨a2, c2, Gs2, rfl, hG2, hm2, hB2⟩; have HG2 := Lib.hid hG2; have HM2 := Lib.hid hm2; have HB2 := Lib.hid (bel2 hB1 hB2); clear hG2 hm2; have HBB := Lib.hid hB2; clear hB1 hB2))
      | (go_at_call 30; ((with_reducible refine (G1.out _ (Below.refl _ _)).mono ?_); rintro r w1 ⟨a1, c1, Gs1, rfl, hG1, hm1, hB1⟩; have HG1 := Lib.hid hG1; have HM1 := Lib.hid hm1; clear hG1 hm1))
      | (go_at_call 41; ((with_reducible refine (GE.out _ _ _ _ _ _ _ _ _ (HG1.out.below HBB.out) HG2.out).mono ?_); rintro r w3 ⟨rfl, hB3⟩; rw [HM1.out, HM2.out, decide_eq_true HAB.out]; have HB3 := Lib.hid (bel2 HB2.out hB3); clear HG1 HG2 hB3))
      | (go_at_call 32; ((with_reducible refine (S2.out _ hB4).mono ?_); rintro r w5 ⟨b2, k2, rfl, hS2, hB5⟩; have HS2 := Lib.hid hS2; have HB5 := Lib.hid (bel2 hB4 hB5); have HR1 := Lib.hid (HS1.out.below hB5); clear hS2 hB4 hB5))
      | (go_at_call 32; ((with_reducible refine (S1.out _ HB3.out).mono ?_); rintro r w4 ⟨b1, k1, rfl, hS1, hB4'⟩; have HS1 := Lib.hid hS1; have hB4 := bel2 HB3.out hB4'; clear hS1 hB4'))
      | (go_at_call 43; ((with_reducible refine (SE.out _ _ _ _ _ HR1.out HS2.out).mono ?_); rintro r w6 ⟨rfl, hB6⟩)))
    go_ret
    exact ⟨by simp, bel2 HB5.out hB6⟩
  · have HAB := Lib.hid hAB
    rw [decide_eq_false hAB]
    clear hAB
    go_enter Try.func23, Try.ntmps23
    go_wp2_with (first
      | (go_at_call 30; ((with_reducible refine (G2.out _ hB1).mono ?_); rintro r w2 ⟨a2, c2, Gs2, rfl, hG2, hm2, hB2⟩; have HG2 := Lib.hid hG2; have HM2 := Lib.hid hm2; have HB2 := Lib.hid (bel2 hB1 hB2); clear hG2 hm2; have HBB := Lib.hid hB2; clear hB1 hB2))
      | (go_at_call 30; ((with_reducible refine (G1.out _ (Below.refl _ _)).mono ?_); rintro r w1 ⟨a1, c1, Gs1, rfl, hG1, hm1, hB1⟩; have HG1 := Lib.hid hG1; have HM1 := Lib.hid hm1; clear hG1 hm1))
      | (go_at_call 41; ((with_reducible refine (GE.out _ _ _ _ _ _ _ _ _ (HG1.out.below HBB.out) HG2.out).mono ?_); rintro r w3 ⟨rfl, hB3⟩; rw [HM1.out, HM2.out, decide_eq_false HAB.out]; have HB3 := Lib.hid (bel2 HB2.out hB3); clear HG1 HG2 hB3)))
    go_ret
    exact ⟨by simp, HB3.out⟩

end Go.Proofs.Ytdncdlbhgaehmaa

/- A ledger with the blocks that are its own (LT); one, two ledgers made since (LG1, LG2). -/
namespace Go.Proofs.Ytdncdlbhgaehmaa
open Go.RowKit Go.Shelf
set_option linter.unusedVariables false
attribute [local go_sem] Oper.semAt_some wide_fn wide_round_fn

def flA (A : List LG) : List SpotC := A.flatMap fun L => spotsL L.g L.F
def denA (A : List LG) : Bool := A.all fun L => isG L.g
theorem fl_flA (F : List LE) : fl F = flA (F.map LE.L) := by unfold fl flA; rw [List.flatMap_map]
theorem den_denA (F : List LE) : denB F = denA (F.map LE.L) := by unfold denB denA; rw [List.all_map]; rfl
def LT (W : World) (e : Nat) (A : List LG) (T : Nat → Prop) : Prop := ∃ M F, LedAt W e M F ∧ F.map LE.L = A ∧ T = ownLg F e M
theorem LT.lt {W : World} {e : Nat} {A : List LG} {T : Nat → Prop} (h : LT W e A T) {k : Nat} (hk : T k) : k < W.heap.size := by
  obtain ⟨M, F, h, -, rfl⟩ := h; exact h.lt hk
theorem LT.below {W W' : World} {e : Nat} {A : List LG} {T : Nat → Prop} (h : LT W e A T) (hB : Below W.heap.size W W') : LT W' e A T := by
  obtain ⟨M, F, h, h1, h2⟩ := h; exact ⟨M, F, h.below hB, h1, h2⟩
theorem LT.other {W W' : World} {e e2 : Nat} {A A2 : List LG} {T T2 : Nat → Prop} (h : LT W e A T) (h2 : LT W e2 A2 T2) (hF : FrameT T2 W W') (hT : ∀ k, T k → ¬ T2 k) : LT W' e A T := by
  obtain ⟨M, F, h, h1, rfl⟩ := h
  obtain ⟨M2, F2, h2, -, rfl⟩ := h2
  exact ⟨M, F, h.other h2 hF hT, h1, rfl⟩
theorem LT.ris {W : World} {e : Nat} {A : List LG} {T : Nat → Prop} (h : LT W e A T) : RisZ LG.n A ∧ ∀ L ∈ A, 0 ≤ L.n ∧ L.n ≤ 999 := by
  obtain ⟨M, F, h, rfl, -⟩ := h
  refine ⟨h.risL, fun L hL => ?_⟩
  obtain ⟨x, hx, rfl⟩ := List.mem_map.1 hL
  exact h.ids x hx
def OpLT (W : World) (e : Nat) (T : Nat → Prop) (A' : List LG) (W' : World) : Prop := ∃ T', LT W' e A' T' ∧ FrameT T W W' ∧ ∀ k, T' k → T k ∨ W.heap.size ≤ k
/-- Do. -/
theorem tDo {W : World} {e N c : Nat} {A : List LG} {T : Nat → Prop} (h : LT W e A T) (hok : okA N A) (a : Option Addr) (len cap : Nat) (L : List PL) (hp : HasP W a len L) (hc : ∀ x ∈ L, x.2.length ≤ c ∧ x.2.length ≤ x.1.cap) (hN : N + len * (c + 2) ≤ 100000) (hA : A.length + len < 100000) (s t : Int) :
    Calls Try.prog 27 #[.pointer (some ⟨e, 0, none⟩), .slice a len cap, .agg #[.int .i64 s, .int .i64 t]] W fun r w' => (∃ v, r = .returned v) ∧ OpLT W e T (ldo A L s t) w' := by
  obtain ⟨M, F, h, rfl, rfl⟩ := h
  refine (ldo_any h hok a len cap L hp hc hN (by rwa [List.length_map] at hA) s t).mono ?_
  rintro r w' ⟨h1, F', h2, h3, -, -⟩
  exact ⟨h1, _, ⟨M, F', h2.1, h3, rfl⟩, h2.2.1, h2.2.2⟩
theorem ldo_ok {N c : Nat} : ∀ {L : List PL} {A : List LG} (h : okA N A) (s t : Int), (∀ x ∈ L, x.2.length ≤ c) → okA (N + L.length * (c + 2)) (ldo A L s t)
  | [], A, h, s, t, _ => by simpa [ldo] using h
  | x :: r, A, h, s, t, hc => by
    have h1 := ldo1_ok h x s t (hc x (by simp))
    have h2 := ldo_ok (L := r) h1 s t (fun y hy => hc y (List.mem_cons_of_mem _ hy))
    have e : N + (c + 2) + r.length * (c + 2) = N + (x :: r).length * (c + 2) := by rw [List.length_cons, Nat.succ_mul]; omega
    rw [e] at h2
    exact h2
theorem ldo_len : ∀ (L : List PL) (A : List LG) (s t : Int), (ldo A L s t).length ≤ A.length + L.length
  | [], A, s, t => Nat.le_refl _
  | x :: r, A, s, t => by
    have h1 := ldo1_len A x s t
    have h2 := ldo_len r (ldo1 A x s t) s t
    show (ldo (ldo1 A x s t) r s t).length ≤ _
    rw [List.length_cons]; omega
/-- One ledger, made since w: what lay in w is as it was. -/
def LG1 (w : World) (e : Nat) (A : List LG) (W : World) : Prop := ∃ T, LT W e A T ∧ Below w.heap.size w W ∧ ∀ k, T k → w.heap.size ≤ k
theorem LG1.below {w W W' : World} {e : Nat} {A : List LG} (h : LG1 w e A W) (hB : Below W.heap.size W W') : LG1 w e A W' := by
  obtain ⟨T, h1, h2, h3⟩ := h; exact ⟨T, h1.below hB, bel2 h2 hB, h3⟩
theorem LG1.bel {w W : World} {e : Nat} {A : List LG} (h : LG1 w e A W) : Below w.heap.size w W := h.choose_spec.2.1
theorem LG1.ris {w W : World} {e : Nat} {A : List LG} (h : LG1 w e A W) : RisZ LG.n A ∧ ∀ L ∈ A, 0 ≤ L.n ∧ L.n ≤ 999 := h.choose_spec.1.ris
theorem gNew1 {w W : World} (hB : Below w.heap.size w W) : Calls Try.prog 26 #[] W fun r w' => ∃ e, r = .returned (.pointer (some ⟨e, 0, none⟩)) ∧ LG1 w e [] w' ∧ W.heap.size ≤ e ∧ Below W.heap.size W w' := by
  refine (lnew_any W).mono ?_
  rintro r w' ⟨rfl, h, hB2⟩
  have := hB.size
  refine ⟨_, rfl, ⟨_, ⟨_, _, h, rfl, rfl⟩, bel2 hB hB2, ?_⟩, by omega, hB2⟩
  rintro k (rfl | rfl | ⟨x, hx, -⟩)
  · omega
  · omega
  · cases hx
theorem gDo1 {w W : World} {e N c : Nat} {A : List LG} (h : LG1 w e A W) (hok : okA N A) (a : Option Addr) (len cap : Nat) (L : List PL) (hp : HasP W a len L) (hc : ∀ x ∈ L, x.2.length ≤ c ∧ x.2.length ≤ x.1.cap) (hN : N + len * (c + 2) ≤ 100000) (hA : A.length + len < 100000) (s t : Int) :
    Calls Try.prog 27 #[.pointer (some ⟨e, 0, none⟩), .slice a len cap, .agg #[.int .i64 s, .int .i64 t]] W fun r w' => (∃ v, r = .returned v) ∧ LG1 w e (ldo A L s t) w' := by
  obtain ⟨T, h1, h2, h3⟩ := h
  refine (tDo h1 hok a len cap L hp hc hN hA s t).mono ?_
  rintro r w' ⟨h4, T', h5, h6, h7⟩
  refine ⟨h4, T', h5, h2.trans (h6.toBelow h2.size (fun k hk => h3 k hk)), fun k hk => ?_⟩
  rcases h7 k hk with h | h
  · exact h3 k h
  · exact Nat.le_trans h2.size h
theorem tGroups {W : World} {e : Nat} {A : List LG} {T : Nat → Prop} (h : LT W e A T) (hA : A.length ≤ 1000) : Calls Try.prog 30 #[.pointer (some ⟨e, 0, none⟩)] W fun r w' => ∃ a c Gs, r = .returned (.slice a A.length c) ∧ GrpsAt w' a A.length Gs ∧ Gs.map GVL.g = A.map LG.g ∧ Below W.heap.size W w' := by
  obtain ⟨M, F, h, rfl, rfl⟩ := h
  rw [List.length_map] at hA
  refine (lgrps_any h hA).mono ?_
  rintro r w' ⟨a, c, Gs, rfl, h1, h2, h3⟩
  rw [List.length_map]
  exact ⟨a, c, Gs, rfl, h1, by rw [h2, List.map_map]; rfl, h3⟩
theorem tSpots {W : World} {e N : Nat} {A : List LG} {T : Nat → Prop} (h : LT W e A T) (hA : A.length ≤ 1000) (hok : okA N A) (hN : N ≤ 10000) : Calls Try.prog 32 #[.pointer (some ⟨e, 0, none⟩)] W fun r w' => ∃ a c, r = .returned (.slice a (flA A).length c) ∧ RowV w' a (flA A).length 4 (spotCells (flA A)) ∧ Below W.heap.size W w' := by
  obtain ⟨M, F, h, rfl, rfl⟩ := h
  rw [List.length_map] at hA
  have := lspots_any h hA hok hN
  rw [fl_flA] at this
  exact this
/-- What Get tells. -/
def GetA (W : World) (A : List LG) (i : Int) (r : Ending) (w' : World) : Prop :=
  Below W.heap.size W w' ∧ ((∃ L va vc, getZ LG.n A i = some L ∧ r = .returned (.tuple #[L.g.val va vc, .bool true]) ∧ HasG w' va L.g ∧ L.g.l.length ≤ vc) ∨ (getZ LG.n A i = none ∧ r = .returned (.tuple #[.agg #[.int .i64 0, .int .i64 0, .int .i64 0, .int .i64 0, .int .i64 0, .int .i64 0, .slice none 0 0], .bool false])))
theorem tGet {W : World} {e : Nat} {A : List LG} {T : Nat → Prop} (h : LT W e A T) (i : Int) (hi : -9223372036854775808 ≤ i ∧ i < 9223372036854775808) : Calls Try.prog 49 #[.pointer (some ⟨e, 0, none⟩), .int .i64 i] W (GetA W A i) := by
  obtain ⟨M, F, h, rfl, rfl⟩ := h
  have hg : getZ LG.n (F.map LE.L) i = (getZ LE.k F i).map LE.L := (getZ_map (nm := LE.k) (nb := LG.n) (g := LE.L) (fun _ => rfl) F i).symm
  refine (lget_any h i hi).mono ?_
  rintro r w' ⟨hB, ⟨x, va, vc, h1, h2, h3, h4⟩ | ⟨h1, h2⟩⟩
  · exact ⟨hB, .inl ⟨x.L, va, vc, by rw [hg, h1]; rfl, h2, h3, h4⟩⟩
  · exact ⟨hB, .inr ⟨by rw [hg, h1]; rfl, h2⟩⟩
theorem tCopy {W : World} {e : Nat} {A : List LG} {T : Nat → Prop} (h : LT W e A T) (hA : A.length ≤ 1000) : Calls Try.prog 47 #[.pointer (some ⟨e, 0, none⟩)] W fun r w' => ∃ e2, r = .returned (.pointer (some ⟨e2, 0, none⟩)) ∧ LG1 W e2 A w' := by
  obtain ⟨M, F, h, rfl, rfl⟩ := h
  rw [List.length_map] at hA
  refine (lcopy_any h hA).mono ?_
  rintro r w' ⟨e2, M2, G, rfl, h1, h2, h3, h4⟩
  exact ⟨e2, rfl, _, ⟨M2, G, h1, h2, rfl⟩, h4, h3⟩
def sameA (A B : List LG) : Bool := decide (A.map LG.g = B.map LG.g) && decide (flA A = flA B)
theorem tSame {W : World} {e e2 N : Nat} {A A2 : List LG} {T T2 : Nat → Prop} (h : LT W e A T) (h2 : LT W e2 A2 T2) (hA : A.length ≤ 1000) (hA2 : A2.length ≤ 1000) (hok : okA N A) (hok2 : okA N A2) (hN : N ≤ 10000) (hs : A.length * (N + 2) < 1000000) (hs2 : A2.length * (N + 2) < 1000000) :
    Calls Try.prog 23 #[.pointer (some ⟨e, 0, none⟩), .pointer (some ⟨e2, 0, none⟩)] W fun r w' => r = .returned (.bool (sameA A A2)) ∧ Below W.heap.size W w' := by
  obtain ⟨M, F, h, rfl, rfl⟩ := h
  obtain ⟨M2, F2, h2, rfl, rfl⟩ := h2
  rw [List.length_map] at hA hA2 hs hs2
  have := lsame_any h h2 hA hA2 hok hok2 hN hs hs2
  unfold sameLB at this
  rw [fl_flA, fl_flA] at this
  unfold sameA
  rw [List.map_map, List.map_map]
  exact this
/-! ### Two ledgers -/
def LG2 (w : World) (e : Nat) (A : List LG) (e2 : Nat) (A2 : List LG) (W : World) : Prop := ∃ T T2, LT W e A T ∧ LT W e2 A2 T2 ∧ (∀ k, T k → ¬ T2 k) ∧ Below w.heap.size w W ∧ (∀ k, T k → w.heap.size ≤ k) ∧ ∀ k, T2 k → w.heap.size ≤ k
theorem LG2.swap {w W : World} {e e2 : Nat} {A A2 : List LG} (h : LG2 w e A e2 A2 W) : LG2 w e2 A2 e A W := by
  obtain ⟨T, T2, h1, h2, h3, h4, h5, h6⟩ := h
  exact ⟨T2, T, h2, h1, fun k hk hk2 => h3 k hk2 hk, h4, h6, h5⟩
theorem LG2.below {w W W' : World} {e e2 : Nat} {A A2 : List LG} (h : LG2 w e A e2 A2 W) (hB : Below W.heap.size W W') : LG2 w e A e2 A2 W' := by
  obtain ⟨T, T2, h1, h2, h3, h4, h5, h6⟩ := h
  exact ⟨T, T2, h1.below hB, h2.below hB, h3, bel2 h4 hB, h5, h6⟩
theorem LG2.bel {w W : World} {e e2 : Nat} {A A2 : List LG} (h : LG2 w e A e2 A2 W) : Below w.heap.size w W := by
  obtain ⟨T, T2, h1, h2, h3, h4, h5, h6⟩ := h; exact h4
theorem LG2.one {w W : World} {e e2 : Nat} {A A2 : List LG} (h : LG2 w e A e2 A2 W) : LG1 w e A W := by
  obtain ⟨T, T2, h1, h2, h3, h4, h5, h6⟩ := h; exact ⟨T, h1, h4, h5⟩
/-- A ledger that is newer than all of the other's. -/
theorem LG1.two {w W W' : World} {e e2 : Nat} {A A2 : List LG} (h : LG1 w e A W) (h2 : LG1 W e2 A2 W') : LG2 w e A e2 A2 W' := by
  obtain ⟨T, h1, hB, hT⟩ := h
  obtain ⟨T2, h3, hB2, hT2⟩ := h2
  exact ⟨T, T2, h1.below hB2, h3, fun k hk hk2 => by have := h1.lt hk; have := hT2 k hk2; omega, bel2 hB hB2, hT, fun k hk => Nat.le_trans hB.size (hT2 k hk)⟩
theorem gDo2 {w W : World} {e e2 N c : Nat} {A A2 : List LG} (h : LG2 w e A e2 A2 W) (hok : okA N A) (a : Option Addr) (len cap : Nat) (L : List PL) (hp : HasP W a len L) (hc : ∀ x ∈ L, x.2.length ≤ c ∧ x.2.length ≤ x.1.cap) (hN : N + len * (c + 2) ≤ 100000) (hA : A.length + len < 100000) (s t : Int) :
    Calls Try.prog 27 #[.pointer (some ⟨e, 0, none⟩), .slice a len cap, .agg #[.int .i64 s, .int .i64 t]] W fun r w' => (∃ v, r = .returned v) ∧ LG2 w e (ldo A L s t) e2 A2 w' := by
  obtain ⟨T, T2, h1, h2, h3, h4, h5, h6⟩ := h
  refine (tDo h1 hok a len cap L hp hc hN hA s t).mono ?_
  rintro r w' ⟨g1, T', g2, g3, g4⟩
  refine ⟨g1, T', T2, g2, h2.other h1 g3 (fun k hk hk2 => h3 k hk2 hk), fun k hk hk2 => ?_, h4.trans (g3.toBelow h4.size (fun k hk => h5 k hk)), fun k hk => ?_, h6⟩
  · rcases g4 k hk with h | h
    · exact h3 k h hk2
    · have := h2.lt hk2; omega
  · rcases g4 k hk with h | h
    · exact h5 k h
    · exact Nat.le_trans h4.size h

end Go.Proofs.Ytdncdlbhgaehmaa
