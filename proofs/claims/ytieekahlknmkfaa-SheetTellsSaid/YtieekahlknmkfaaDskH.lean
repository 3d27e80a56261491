/- The contracts of a disk's functions: Remove, Sync, Rename. -/
import Derived.Test.YtieekahlknmkfaaDskG
namespace Go.Proofs.Ytieekahlknmkfaa
open Go.RowKit Go.Shelf
set_option linter.unusedVariables false
attribute [local go_sem] Oper.semAt_some wide_fn wide_round_fn

theorem ask_ok {W : World} {B d m : Nat} {D : PD} {F : List FileC} (h : HasDisk W B d m D F) {s : ByteArray} (e : askE D s = 0) : offB D = false ∧ ∃ f, getK FileC.n F s = some f ∧ f ∈ F ∧ f.n = s ∧ getK PF.n D.L s = some f.core := by
  unfold askE at e
  cases ho : offB D with
  | true => rw [ho] at e; cases e
  | false =>
    rw [ho] at e
    refine ⟨rfl, ?_⟩
    cases hg : getK FileC.n F s with
    | none => rw [h.get s, hg] at e; cases e
    | some f => exact ⟨f, rfl, (getK_some hg).1, (getK_some hg).2, by rw [h.get s, hg]; rfl⟩
theorem opD_no {W : World} {B d m : Nat} {D : PD} {F : List FileC} (h : HasDisk W B d m D F) {s : ByteArray} {n : Int} {D' : PD} (e : askE D s = n) (hn : n ≠ 0) : Ending.returned (.int .i64 n) = Ending.returned (.int .i64 (askE D s)) ∧ OpD W B d m F (if askE D s = 0 then D' else D) W := by
  rw [e, if_neg hn]
  exact ⟨rfl, OpD.refl h⟩
theorem askE_ne {D : PD} {s : ByteArray} (h : askE D s ≠ 0) : askE D s = 18 ∨ askE D s = 19 := by
  unfold askE at h ⊢
  split
  · exact .inl rfl
  · split
    · rename_i h1 h2; rw [if_neg h1, if_pos h2] at h; exact absurd rfl h
    · exact .inr rfl
def removeD (D : PD) (s : ByteArray) : PD := if askE D s = 0 then doneD { D with L := delK PF.n D.L s } else D
theorem opD_del {W w1 w2 : World} {B d m : Nat} {F : List FileC} {s : ByteArray} (hF : FrameT (fun k => k = m) W w1) (hG : FrameT (fun k => k = d) w1 w2) (D' : PD) (hD : HasDisk w2 B d m D' (delK FileC.n F s)) : OpD W B d m F D' w2 := by
  refine ⟨_, hD, (hF.mono fun k hk => .inr (.inl hk)).trans (hG.mono fun k hk => .inl hk), fun k hk => ?_⟩
  rcases hk with hk | hk | ⟨f, hf, hk⟩
  · exact .inl (.inl hk)
  · exact .inl (.inr (.inl hk))
  · exact .inl (.inr (.inr ⟨f, (mem_delK.1 hf).1, hk⟩))
theorem delC {W w1 : World} {B d m n' : Nat} {D : PD} {F : List FileC} (h : HasDisk W B d m D F) (s : ByteArray) (hm : w1.ownsMap Try.prog 9 ptrElem m n' ((dmap F).del (.string s.data.toList))) (hT : W.mapTurned w1 m) : HasDisk w1 B d m { D with L := delK PF.n D.L s } (delK FileC.n F s) ∧ FrameT (fun k => k = m) W w1 := ⟨h.del s hm (frame_map hT.grown), frame_map hT.grown⟩
set_option maxRecDepth 100000 in
set_option maxHeartbeats 1000000 in
theorem remove_any {W : World} {B d m : Nat} {D : PD} {F : List FileC} (h : HasDisk W B d m D F) (s : ByteArray) (hs : s.size ≤ maxLen) (hst : D.steps < 4611686018427387904) (hle : D.left < 9223372036854775808) :
    Calls Try.prog 33 #[.pointer (some ⟨d, 0, none⟩), .string s] W fun e w' => e = .returned (.int .i64 (askE D s)) ∧ OpD W B d m F (removeD D s) w' := by
  have GA := Lib.hid (ask_any h s hs)
  obtain ⟨c0, c1, c2, c3, c4⟩ := cells5 h.cell
  have hmap := h.map
  have hkey := Go.WideMaps.keyOf_string_mk (s := s) Try.underlying9 hs
  have HD := Lib.hid h
  by_cases ha : askE D s = 0
  · obtain ⟨ho, -⟩ := ask_ok h ha
    have GD := Lib.hid (fun (w1 : World) (hH : HasDisk w1 B d m { D with L := delK PF.n D.L s } (delK FileC.n F s)) => done_any hH (show offB { D with L := delK PF.n D.L s } = false from ho) hst hle)
    have HA := Lib.hid ha
    rw [ha] at GA
    clear h ha ho
    go_enter Try.func33, Try.ntmps33
    go_wp2_with (first
      | (go_at_call 62; ((with_reducible refine GA.out.mono ?_); rintro e w1 ⟨rfl, rfl⟩))
      | (at_delete; refine wpList_delete_own _ rfl _ _ 79 9 rfl 82 lawStr Try.underlying79 ptrElem m F.length (dmap F) rfl hmap _ _ rfl hkey ?_; intro w1 hown1 hturn1; have hH1 := Lib.hid (delC HD.out s hown1 hturn1))
      | (go_at_call 59; ((with_reducible refine (GD.out _ hH1.out.1).mono ?_); rintro e w2 ⟨rfl, hD2, hF2⟩)))
    go_ret
    have hcd : removeD D s = doneD { D with L := delK PF.n D.L s } := by unfold removeD; rw [HA.out]; rfl
    rw [HA.out, hcd]
    exact ⟨rfl, opD_del hH1.out.2 hF2 _ hD2⟩
  · have HE := Lib.hid ha
    rcases askE_ne ha with h18 | h18
    all_goals
      have H18 := Lib.hid h18
      rw [h18] at GA
      clear h ha h18
      go_enter Try.func33, Try.ntmps33
      go_wp2_with (go_at_call 62; ((with_reducible refine GA.out.mono ?_); rintro e w1 ⟨rfl, rfl⟩))
      go_ret
      exact opD_no HD.out H18.out (by decide)

/-- A file's bytes are kept. -/
def keepP (x : PF) : PF := { x with k := x.b.length }
def keepC (x : FileC) : FileC := { x with k := x.b.length }
def turnL (g : PF → PF) (L : List PF) (s : ByteArray) : List PF := L.map fun x => if x.n = s then g x else x
theorem set_turn {W : World} {B d m : Nat} {D : PD} {F : List FileC} (h : HasDisk W B d m D F) {f : FileC} (hf : f ∈ F) (g : PF → PF) (hg : (g f.core).n = f.n) : setK PF.n (g f.core) D.L = turnL g D.L f.n := by
  unfold setK turnL
  rw [← h.core]
  apply List.map_congr_left
  intro x hx
  obtain ⟨y, hy, rfl⟩ := List.mem_map.1 hx
  rw [hg]
  by_cases e : (FileC.core y).n = f.n
  · rw [if_pos e, if_pos e]
    rcases pairwise_get (fun e => Ne.symm e) h.nms hy hf with e1 | e1
    · rw [e1]
    · exact absurd e e1
  · rw [if_neg e, if_neg e]
theorem opD_set {W w1 w2 : World} {B d m : Nat} {F : List FileC} {f x : FileC} (hf : f ∈ F) (hfb : x.fb = f.fb) (hv : ∀ j, x.v.ownBlock = some j → f.v.ownBlock = some j ∨ W.heap.size ≤ j) (hF : FrameT (fun k => k = f.fb ∨ f.v.ownBlock = some k) W w1) (hG : FrameT (fun k => k = d) w1 w2) (D' : PD) (hD : HasDisk w2 B d m D' (setK FileC.n x F)) : OpD W B d m F D' w2 := by
  refine ⟨_, hD, (hF.mono fun k hk => .inr (.inr ⟨f, hf, hk⟩)).trans (hG.mono fun k hk => .inl hk), fun k hk => ?_⟩
  rcases hk with hk | hk | ⟨y, hy, hk⟩
  · exact .inl (.inl hk)
  · exact .inl (.inr (.inl hk))
  · rcases mem_setK hy with rfl | ⟨hy, _⟩
    · rcases hk with rfl | hk
      · exact .inl (.inr (.inr ⟨f, hf, .inl hfb⟩))
      · rcases hv k hk with h1 | h1
        · exact .inl (.inr (.inr ⟨f, hf, .inr h1⟩))
        · exact .inr h1
    · exact .inl (.inr (.inr ⟨y, hy, hk⟩))
theorem keep_disk {W : World} {B d m : Nat} {D : PD} {F : List FileC} (h : HasDisk W B d m D F) {f : FileC} (hf : f ∈ F) : Calls Try.prog 61 #[.pointer (some ⟨f.fb, 0, none⟩)] W fun e w' => (∃ v, e = .returned v) ∧ HasDisk w' B d m { D with L := turnL keepP D.L f.n } (setK FileC.n (keepC f) F) ∧ FrameT (fun k => k = f.fb ∨ f.v.ownBlock = some k) W w' := by
  obtain ⟨h1, h2, h3⟩ := h.file f hf
  obtain ⟨a, cap, hv⟩ := own_sliceG h2
  rw [hv] at h1
  refine (keep_any h1).mono ?_
  rintro e w' ⟨he, rfl⟩
  have hF : FrameT (fun k => k = f.fb) W (W.setCell ⟨f.fb, 1, none⟩ (.int .i64 f.b.length)) := FrameT.setCell W f.fb 1 _
  have hF' := hF.mono (U := fun k => k = f.fb ∨ f.v.ownBlock = some k) fun k hk => .inl hk
  refine ⟨he, ?_, hF'⟩
  have hown : f.v.ownBlock ≠ some f.fb := h.apart.2.2 f hf f hf
  have := h.set hf (keepC f) rfl rfl ⟨by rw [show (keepC f).fb = f.fb from rfl, heap_setCell_same _ _ _ _ _ _ h1]; rw [show (keepC f).v = f.v from rfl, hv]; rfl, ownsG_frame h2 hF (fun j hj e => hown (by rw [← e]; exact hj)), Nat.le_refl _⟩ (fun j hj => .inl hj) hF'
  rw [show (keepC f).core = keepP f.core from rfl, set_turn h hf keepP rfl] at this
  exact this
def syncD (D : PD) (s : ByteArray) : PD := if askE D s = 0 then doneD { D with L := turnL keepP D.L s } else D
set_option maxRecDepth 100000 in
set_option maxHeartbeats 1000000 in
theorem sync_any {W : World} {B d m : Nat} {D : PD} {F : List FileC} (h : HasDisk W B d m D F) (s : ByteArray) (hs : s.size ≤ maxLen) (hst : D.steps < 4611686018427387904) (hle : D.left < 9223372036854775808) :
    Calls Try.prog 26 #[.pointer (some ⟨d, 0, none⟩), .string s] W fun e w' => e = .returned (.int .i64 (askE D s)) ∧ OpD W B d m F (syncD D s) w' := by
  have GA := Lib.hid (ask_any h s hs)
  obtain ⟨c0, c1, c2, c3, c4⟩ := cells5 h.cell
  have HD := Lib.hid h
  by_cases ha : askE D s = 0
  · obtain ⟨ho, f, hg, hf, hn, -⟩ := ask_ok h ha
    have hrun := look_run h hs hg
    have GK := Lib.hid (keep_disk h hf)
    rw [hn] at GK
    have GD := Lib.hid (fun (w1 : World) (hH : HasDisk w1 B d m { D with L := turnL keepP D.L s } (setK FileC.n (keepC f) F)) => done_any hH (show offB { D with L := turnL keepP D.L s } = false from ho) hst hle)
    have HA := Lib.hid ha
    have HF := Lib.hid hf
    rw [ha] at GA
    clear h ha ho hg hf hn
    go_enter Try.func26, Try.ntmps26
    go_wp2_with (first
      | (go_at_call 62; ((with_reducible refine GA.out.mono ?_); rintro e w1 ⟨rfl, rfl⟩))
      | (go_at_call 61; ((with_reducible refine GK.out.mono ?_); rintro e w1 ⟨⟨v, rfl⟩, hH1, hF1⟩; have HH1 := Lib.hid hH1; have HF1 := Lib.hid hF1; clear hH1 hF1))
      | (go_at_call 59; ((with_reducible refine (GD.out _ HH1.out).mono ?_); rintro e w2 ⟨rfl, hD2, hF2⟩)))
    go_ret
    have hcd : syncD D s = doneD { D with L := turnL keepP D.L s } := by unfold syncD; rw [HA.out]; rfl
    rw [HA.out, hcd]
    exact ⟨rfl, opD_set (x := keepC f) HF.out rfl (fun j hj => .inl hj) HF1.out hF2 _ hD2⟩
  · have HE := Lib.hid ha
    rcases askE_ne ha with h18 | h18
    all_goals
      have H18 := Lib.hid h18
      rw [h18] at GA
      clear h ha h18
      go_enter Try.func26, Try.ntmps26
      go_wp2_with (go_at_call 62; ((with_reducible refine GA.out.mono ?_); rintro e w1 ⟨rfl, rfl⟩))
      go_ret
      exact opD_no HD.out H18.out (by decide)

def namedP (f : PF) (t : ByteArray) (k : Nat) : PF := ⟨t, f.b, k⟩
def namedC (f : FileC) (t : ByteArray) (k : Nat) : FileC := ⟨t, f.fb, f.v, f.b, k⟩
/-- A file under another name, its bytes kept. -/
def renF (D : PD) (s t : ByteArray) : PD := match getK PF.n D.L s with | some f => { D with L := putK PF.n (namedP f t f.b.length) (delK PF.n D.L s) } | none => D
def renameD (D : PD) (s t : ByteArray) : PD := if askE D s = 0 then doneD (renF D s t) else D
theorem set_ins {α : Type} {nm : α → ByteArray} {x y : α} (e : nm y = nm x) : ∀ G : List α, (∀ z ∈ G, nm z ≠ nm x) → setK nm y (insK nm x G) = insK nm y G
  | [], _ => by simp [setK, insK, e]
  | z :: r, hd => by
    have hz := hd z List.mem_cons_self
    have hr : ∀ w ∈ r, nm w ≠ nm x := fun w hw => hd w (List.mem_cons_of_mem _ hw)
    have ih := set_ins e r hr
    have hid : setK nm y r = r := by
      unfold setK
      conv => rhs; rw [← List.map_id r]
      apply List.map_congr_left
      intro w hw
      rw [if_neg (by rw [e]; exact hr w hw)]; rfl
    show setK nm y (if Lit.before (.string (nm x).data.toList) (.string (nm z).data.toList) = true then x :: z :: r else z :: insK nm x r) = (if Lit.before (.string (nm y).data.toList) (.string (nm z).data.toList) = true then y :: z :: r else z :: insK nm y r)
    rw [e]
    split
    · show (if nm x = nm y then y else x) :: (if nm z = nm y then y else z) :: setK nm y r = _
      rw [if_pos e.symm, if_neg (by rw [e]; exact hz), hid]
    · show (if nm z = nm y then y else z) :: setK nm y (insK nm x r) = _
      rw [if_neg (by rw [e]; exact hz), ih]
theorem set_put {α : Type} {nm : α → ByteArray} {x y : α} (e : nm y = nm x) (F : List α) : setK nm y (putK nm x F) = putK nm y F := by
  unfold putK
  rw [e]
  exact set_ins e _ fun z hz => (mem_delK.1 hz).2
theorem delK_get {F : List FileC} {s : ByteArray} {f : FileC} (hp : F.Pairwise fun f g => f.n ≠ g.n) (hf : f ∈ F) (hn : f.n = s) : ∀ g ∈ delK FileC.n F s, g ≠ f := fun g hg e => by rw [e] at hg; exact (mem_delK.1 hg).2 hn
/-- The file that was taken out is laid in anew, under another name. -/
theorem renC {W w1 w2 : World} {B d m n' n'' : Nat} {D : PD} {F : List FileC} (h : HasDisk W B d m D F) {s t : ByteArray} {f : FileC} (hf : f ∈ F) (hn : f.n = s) (hm1 : w1.ownsMap Try.prog 9 ptrElem m n' ((dmap F).del (.string s.data.toList))) (hT1 : W.mapTurned w1 m)
    (hm2 : w2.ownsMap Try.prog 9 ptrElem m n'' (((dmap F).del (.string s.data.toList)).put (.string t.data.toList) (.lit (.int .i64 f.fb)))) (hT2 : w1.grownBy w2 (some m)) :
    HasDisk w2 B d m { D with L := putK PF.n (namedP f.core t f.k) (delK PF.n D.L s) } (putK FileC.n (namedC f t f.k) (delK FileC.n F s)) ∧ FrameT (fun k => k = m) W w2 := by
  obtain ⟨h1, hF1⟩ := delC h s hm1 hT1
  have hF2 := frame_map hT2
  rw [dmap_del] at hm2
  obtain ⟨a1, a2, a3⟩ := h.apart
  obtain ⟨b1, b2, b3⟩ := h.file f hf
  have hF := hF1.trans hF2
  refine ⟨h1.put (namedC f t f.k) (fun g hg _ => ?_) ⟨hF.get b1 (a2 f hf).2.1, ownsG_frame b2 hF (fun j hj e => (a2 f hf).2.2.2 (by rw [← e]; exact hj)), b3⟩ hm2 hF2 (h.low.2.2 f hf), hF⟩
  have hg1 := (mem_delK.1 hg).1
  constructor
  · rcases pairwise_get (fun e => Ne.symm e) h.fbs hg1 hf with e1 | e1
    · exact absurd e1 (delK_get h.nms hf hn g hg)
    · exact e1
  · rcases pairwise_get (R := fun f g : FileC => ∀ j, f.v.ownBlock = some j → g.v.ownBlock ≠ some j) (fun {a b} hab j hj e => hab j e hj) h.rows hg1 hf with e1 | e1
    · exact absurd e1 (delK_get h.nms hf hn g hg)
    · exact e1
theorem keep_ren {W : World} {B d m : Nat} {D : PD} {F : List FileC} {s t : ByteArray} {f : FileC} (h : HasDisk W B d m { D with L := putK PF.n (namedP f.core t f.k) (delK PF.n D.L s) } (putK FileC.n (namedC f t f.k) (delK FileC.n F s))) (hg : getK PF.n D.L s = some f.core) : Calls Try.prog 61 #[.pointer (some ⟨f.fb, 0, none⟩)] W fun e w' => (∃ v, e = .returned v) ∧ HasDisk w' B d m (renF D s t) (putK FileC.n (namedC f t f.b.length) (delK FileC.n F s)) ∧ FrameT (fun k => k = f.fb ∨ f.v.ownBlock = some k) W w' := by
  have hf : namedC f t f.k ∈ putK FileC.n (namedC f t f.k) (delK FileC.n F s) := mem_putK.2 (.inl rfl)
  refine (keep_disk h hf).mono ?_
  rintro e w' ⟨he, h2, h3⟩
  refine ⟨he, ?_, h3⟩
  rw [show keepC (namedC f t f.k) = (namedC f t f.b.length) from rfl, set_put (show FileC.n (namedC f t f.b.length) = FileC.n (namedC f t f.k) from rfl)] at h2
  have e1 : turnL keepP (putK PF.n (namedP f.core t f.k) (delK PF.n D.L s)) (namedC f t f.k).n = putK PF.n (namedP f.core t f.b.length) (delK PF.n D.L s) := by
    have := set_turn h hf keepP rfl
    dsimp only at this
    rw [← this]
    exact set_put (show PF.n (namedP f.core t f.b.length) = PF.n (namedP f.core t f.k) from rfl) _
  dsimp only at h2
  rw [e1] at h2
  unfold renF
  rw [hg]
  exact h2
theorem opD_ren {W w1 w2 w3 : World} {B d m : Nat} {F : List FileC} {f x : FileC} {s : ByteArray} (hf : f ∈ F) (hfb : x.fb = f.fb) (hv : x.v = f.v) (hF : FrameT (fun k => k = m) W w1) (hK : FrameT (fun k => k = f.fb ∨ f.v.ownBlock = some k) w1 w2) (hG : FrameT (fun k => k = d) w2 w3) (D' : PD) (hD : HasDisk w3 B d m D' (putK FileC.n x (delK FileC.n F s))) : OpD W B d m F D' w3 := by
  refine ⟨_, hD, ((hF.mono fun k hk => .inr (.inl hk)).trans (hK.mono fun k hk => .inr (.inr ⟨f, hf, hk⟩))).trans (hG.mono fun k hk => .inl hk), fun k hk => .inl ?_⟩
  rcases hk with hk | hk | ⟨y, hy, hk⟩
  · exact .inl hk
  · exact .inr (.inl hk)
  · rcases mem_putK.1 hy with rfl | ⟨hy, _⟩
    · rw [hfb, hv] at hk; exact .inr (.inr ⟨f, hf, hk⟩)
    · exact .inr (.inr ⟨y, (mem_delK.1 hy).1, hk⟩)
set_option maxRecDepth 100000 in
set_option maxHeartbeats 1000000 in
theorem rename_any {W : World} {B d m : Nat} {D : PD} {F : List FileC} (h : HasDisk W B d m D F) (s t : ByteArray) (hs : s.size ≤ maxLen) (ht : t.size ≤ maxLen) (hFl : F.length < maxLen) (hst : D.steps < 4611686018427387904) (hle : D.left < 9223372036854775808) :
    Calls Try.prog 31 #[.pointer (some ⟨d, 0, none⟩), .string s, .string t] W fun e w' => e = .returned (.int .i64 (askE D s)) ∧ OpD W B d m F (renameD D s t) w' := by
  have GA := Lib.hid (ask_any h s hs)
  obtain ⟨c0, c1, c2, c3, c4⟩ := cells5 h.cell
  have hmap := h.map
  have hkey := Go.WideMaps.keyOf_string_mk (s := s) Try.underlying9 hs
  have hkeyt := Go.WideMaps.keyOf_string_mk (s := t) Try.underlying9 ht
  have HD := Lib.hid h
  by_cases ha : askE D s = 0
  · obtain ⟨ho, f, hg, hf, hn, hgd⟩ := ask_ok h ha
    have hrun := look_run h hs hg
    have HKR := Lib.hid (fun (w : World) (hH : HasDisk w B d m { D with L := putK PF.n (namedP f.core t f.k) (delK PF.n D.L s) } (putK FileC.n (namedC f t f.k) (delK FileC.n F s))) => keep_ren hH hgd)
    have GD := Lib.hid (fun (w1 : World) (hH : HasDisk w1 B d m (renF D s t) (putK FileC.n (namedC f t f.b.length) (delK FileC.n F s))) => done_any hH (show offB (renF D s t) = false by unfold renF; rw [hgd]; exact ho) (show (renF D s t).steps < _ by unfold renF; rw [hgd]; exact hst) (show (renF D s t).left < _ by unfold renF; rw [hgd]; exact hle))
    have HA := Lib.hid ha
    have HF := Lib.hid hf
    have HN := Lib.hid hn
    rw [ha] at GA
    clear h ha ho hg hf hn hgd
    go_enter Try.func31, Try.ntmps31
    go_wp2_with (first
      | (go_at_call 62; ((with_reducible refine GA.out.mono ?_); rintro e w1 ⟨rfl, rfl⟩))
      | (at_delete; refine wpList_delete_own _ rfl _ _ 79 9 rfl 82 lawStr Try.underlying79 ptrElem m F.length (dmap F) rfl hmap _ _ rfl hkey ?_; intro w1 hown1 hturn1; have c0' := (cells5 (delC HD.out s hown1 hturn1).1.cell).1; have HO1 := Lib.hid hown1; have HT1 := Lib.hid hturn1)
      | (at_mapUpdate; refine wpList_mapUpdate_own _ rfl _ _ _ 79 rfl 9 82 lawStr Try.underlying79 ptrElem m F.length _ rfl HO1.out hFl _ _ _ rfl rfl hkeyt _ [] (ptr_some _) ?_; intro w2 hown2 hgrow2; have HH2 := Lib.hid (renC HD.out HF.out HN.out HO1.out HT1.out hown2 hgrow2))
      | (go_at_call 61; ((with_reducible refine (HKR.out _ HH2.out.1).mono ?_); rintro e w3 ⟨⟨v, rfl⟩, hH3, hF3⟩; have HH3 := Lib.hid hH3; have HF3 := Lib.hid hF3; clear hH3 hF3))
      | (go_at_call 59; ((with_reducible refine (GD.out _ HH3.out).mono ?_); rintro e w4 ⟨rfl, hD4, hF4⟩)))
    go_ret
    have hcd : renameD D s t = doneD (renF D s t) := by unfold renameD; rw [HA.out]; rfl
    rw [HA.out, hcd]
    exact ⟨rfl, opD_ren (x := (namedC f t f.b.length)) HF.out rfl rfl HH2.out.2 HF3.out hF4 _ hD4⟩
  · have HE := Lib.hid ha
    rcases askE_ne ha with h18 | h18
    all_goals
      have H18 := Lib.hid h18
      rw [h18] at GA
      clear h ha h18
      go_enter Try.func31, Try.ntmps31
      go_wp2_with (go_at_call 62; ((with_reducible refine GA.out.mono ?_); rintro e w1 ⟨rfl, rfl⟩))
      go_ret
      exact opD_no HD.out H18.out (by decide)

end Go.Proofs.Ytieekahlknmkfaa
