/- The files of a disk, handed out in the order of their names. -/
import Derived.Test.YtieekahlknmkfaaDskS
import Derived.Test.YtieekahlknmkfaaDskC
import Derived.Test.YtieekahlknmkfaaIterV
import Derived.Test.YtieekahlknmkfaaKeys
namespace Go.Proofs.Ytieekahlknmkfaa
open Go.RowKit Go.Shelf
set_option linter.unusedVariables false
attribute [local go_sem] Oper.semAt_some wide_fn wide_round_fn

def FileC.val (f : FileC) : Array Value := #[.string f.n, .pointer (some ⟨f.fb, 0, none⟩)]
theorem ownsMap_rd {B : Nat} {S : Nat → Prop} {W W' : World} {P : Program} {k : TypeId} {R : Value → Option (DataW Unit × List MemPlace)} {b n : Nat} {D : DataW Unit} (h : W.ownsMap P k R b n D) (hR : Rd B S W W') (hS : S b) : W'.ownsMap P k R b n D := by
  obtain ⟨es, clock, h1, r⟩ := h
  exact ⟨es, clock, hR.block _ _ h1 (.inl hS), r⟩
theorem look_map {W : World} {m n : Nat} {F : List FileC} (h : W.ownsMap Try.prog 9 ptrElem m n (dmap F)) {s : ByteArray} (hs : s.size ≤ maxLen) {f : FileC} (hf : getK FileC.n F s = some f) :
    (Instr.lookup 79 (.map (some m)) (.string s) false).run Try.prog W = .ok (.pointer (some ⟨f.fb, 0, none⟩)) W := by
  obtain ⟨v, ps, hrun, hv⟩ := h.lookup lawStr Try.underlying79 (zeroPtr W) (zd := .nil) (zp := []) rfl (Go.WideMaps.keyOf_string_mk Try.underlying9 hs)
  rw [dmap_at, hf] at hv
  rw [ptrElem_some hv] at hrun
  exact hrun
theorem getK_self {F : List FileC} (hp : F.Pairwise fun f g => f.n ≠ g.n) {f : FileC} (hf : f ∈ F) : getK FileC.n F f.n = some f := by
  cases e : getK FileC.n F f.n with
  | none => exact absurd rfl (getK_none e f hf)
  | some g =>
    obtain ⟨hg, hn⟩ := getK_some e
    rcases pairwise_get (fun e => Ne.symm e) hp hg hf with e1 | e1
    · rw [e1]
    · exact absurd hn e1
theorem HasDisk.names {W : World} {B d m : Nat} {D : PD} {F : List FileC} (h : HasDisk W B d m D F) {f : FileC} (hf : f ∈ F) : f.n.size ≤ maxLen := by
  obtain ⟨es, he, hk⟩ := h.map.keysOf
  unfold dmap at he
  injection he with he
  subst he
  obtain ⟨v, hv⟩ := hk (fent f) (List.mem_map.2 ⟨f, hf, rfl⟩)
  obtain ⟨x, rfl, e, hx⟩ := Maps.keyOf_str Try.underlying9 hv
  have e2 : f.n.data.toList = x := by have e' : Lit.string f.n.data.toList = Lit.string x := e; injection e'
  rw [← e2, Array.length_toList] at hx
  exact hx
theorem row_str {W : World} {B : Nat} {e : TypeId} {n : Nat} {v : Value} {F : List FileC} (h : W.ownsRow B e 1 v n (F.map fun f => Value.string f.n)) {k : Nat} (hk : k < F.length) : ∃ g cap, v = .slice (some ⟨g, 0, none⟩) n cap ∧ B ≤ g ∧ g < W.heap.size ∧ W.cell? ⟨g, k, none⟩ = some (.string F[k].n) := by
  have hl : F.length = n := by have := h.1; simpa using this
  rcases h.2 with ⟨hv, h0⟩ | ⟨g, cap, cur, hv, hb, hg, hle, hcm, hcs, ht⟩
  · omega
  · refine ⟨g, cap, hv, hb, (Array.getElem?_eq_some_iff.1 hg).1, ?_⟩
    rw [Lib.cell_of_heap hg]
    have : (cur.toList.take (n * 1))[k]? = some (.string F[k].n) := by rw [ht]; simp [hk]
    rw [List.getElem?_take] at this
    split at this
    · simpa [Array.getElem?_toList] using this
    · cases this
set_option maxRecDepth 100000 in
set_option maxHeartbeats 1000000 in
theorem order_iter {W0 : World} {B d m : Nat} {D : PD} {F : List FileC} (h : HasDisk W0 B d m D F) (hF : F.length ≤ 1000000) (Bd : Nat) (S V : Nat → Prop) (w0 : World) (hw : Below W0.heap.size W0 w0)
    (hb : w0.cell? ⟨Bd, 0, none⟩ = some (.pointer (some ⟨d, 0, none⟩))) (hS : S Bd ∧ S d ∧ S m) (hV : ¬ V Bd ∧ ¬ V d ∧ ¬ V m) (hVl : ∀ k, V k → k < w0.heap.size) (hbl : Bd < w0.heap.size) :
    IterV Try.prog 77 #[.pointer (some ⟨Bd, 0, none⟩)] FileC.val F S V w0 := by
  intro l J Jx W hW hlw hlW hJs _ hY h0
  have hmW := ownsMap_rd (ownsMap_frame h.map (FrameT.below (T := fun _ => False) hw) id) hW hS.2.2
  have hdW := hW.block _ _ ((FrameT.below (T := fun _ => False) hw).get h.cell id) (.inl hS.2.1)
  have c0 : W.cell? ⟨d, 0, none⟩ = some (.map (some m)) := (cells5 hdW).1
  have cb := hW.cell hb hS.1
  have hsize : Maps.size (dmap F) ≤ maxLen ∧ Maps.size (dmap F) * 16 ≤ 140737488355328 := by rw [dmap_size]; unfold maxLen; omega
  have HSz := Lib.hid hsize
  have HN := Lib.hid (fun ss hp => names_sorted h (ss := ss) hp)
  have HMW := Lib.hid hmW
  have hdl := h.lt (k := d) (.inl rfl)
  have hml := h.lt (k := m) (.inr (.inl rfl))
  have hw0 := hw.size
  have hWs := hW.size
  have HL := Lib.hid (And.intro hdl (And.intro hml (And.intro hbl (And.intro hw0 (And.intro hWs (And.intro hlw hlW))))))
  have HSelf := Lib.hid (fun f (hf : f ∈ F) => (And.intro (getK_self h.nms hf) (h.names hf)))
  have HC0 := Lib.hid c0
  have HCB := Lib.hid cb
  clear hsize hmW hdW hdl hml hbl hw0 hWs
  have hfK : Fence.wide.fn 79 := trivial
  have hfS : Fence.wide.fn 78 := trivial
  refine callsIn_of_wp Try.func77 rfl trivial ?_ rfl
  simp only [Try.ntmps77, List.size_toArray, List.length_cons, List.length_nil, Nat.reduceAdd, Nat.reduceSub, Array.replicate_succ, Array.replicate_zero, List.push_toArray, List.append_toArray, List.nil_append, List.cons_append]
  gi_wp2_with (first
    | (gi_at_call 79; refine (callsIn_wide_n (Try.maps_Keys_79 _ _)).mono ?_; rintro e w' ⟨rfl, rfl⟩)
    | (gi_at_call 78; refine (callsIn_wide_n (Try.slices_Sorted_keys_78_79 m F.length (dmap F) ptrElem W HMW.out HSz.out.1 HSz.out.2)).mono ?_; rintro e w5 ⟨v, ss, rfl, hSs, hrow, -, hb5⟩; rw [(HN.out ss hSs).1, (HN.out ss hSs).2] at hrow; obtain ⟨a5, cap5, rfl⟩ := own_slice hrow))
  have hz5 := hb5.size
  rw [World.size_alloc] at hz5
  have hbW5 : Below W.heap.size W w5 := bel2 (bel_alloc (Below.refl _ _) _) hb5
  have H0 := Lib.hid (h0 w5 hbW5)
  have HB5 := Lib.hid hbW5
  have HZ := Lib.hid hz5
  have HR := Lib.hid hrow
  clear hrow hb5 hbW5 hz5 c0 cb h0 hSs
  gi_loopw [12] (fun q wr => ∃ k : Nat, k ≤ F.length ∧ q = .int .i64 k ∧ J w5.heap.size (F.take k) wr ∧ Rd W.heap.size (fun k => (k < w5.heap.size ∧ ¬ V k) ∧ k ≠ l) w5 wr) (fun q _ => F.length - (intOf q).toNat)
  case atStart => exact ⟨0, by omega, rfl, H0.out, Rd.refl _ _ _⟩
  case round =>
    obtain ⟨k, hk, rfl, hJ, hR⟩ := hrel
    obtain ⟨l1, l2, l3, l4, l5, l6, l7⟩ := HL.out
    have z5 := HZ.out
    have old : ∀ x, x < w0.heap.size → ¬ V x → ((x < w5.heap.size ∧ ¬ V x) ∧ x ≠ l) := fun x hx hv => ⟨⟨by omega, hv⟩, by omega⟩
    have hm := ownsMap_rd (ownsMap_frame HMW.out (FrameT.below (T := fun _ => False) HB5.out) id) hR (old m (by omega) hV.2.2)
    have c0 : wr.cell? ⟨d, 0, none⟩ = some (.map (some m)) := hR.cell ((FrameT.below (T := fun _ => False) HB5.out).cell HC0.out id) (old d (by omega) hV.2.1)
    have cb : wr.cell? ⟨Bd, 0, none⟩ = some (.pointer (some ⟨d, 0, none⟩)) := hR.cell ((FrameT.below (T := fun _ => False) HB5.out).cell HCB.out id) (old Bd (by omega) hV.1)
    by_cases hlt : k < F.length
    · obtain ⟨g, cap, hv, hg1, hg2, hcg⟩ := row_str HR.out hlt
      rw [World.size_alloc] at hg1
      cases hv
      have hcg' := hR.cell hcg ⟨⟨hg2, fun hv => by have := hVl g hv; omega⟩, (show g ≠ l by omega)⟩
      obtain ⟨hs1, hs2⟩ := HSelf.out F[k] (List.getElem_mem hlt)
      have hrun := look_map hm hs2 hs1
      have HX := Lib.hid (show F = F.take k ++ F[k] :: F.drop (k + 1) by rw [List.getElem_cons_drop hlt, List.take_append_drop])
      have HT := Lib.hid (show F.take (k + 1) = F.take k ++ [F[k]] from List.take_succ_eq_append_getElem hlt)
      have hlti : (k : Int) < (F.length : Int) := by omega
      obtain ⟨fn, tmps, assign, body, hy, hR1⟩ := hY w5.heap.size (F.take k) F[k] (F.drop (k + 1)) wr (by omega) HX.out hJ
      dsimp only [FileC.val] at hy
      generalize F[k] = f at *
      clear hm hs1 hs2 old hg1 hg2 hcg
      gi_wp2
      refine (roundIn_wide_n hR1).mono ?_
      rintro e W3 (⟨rfl, hJ3, hk3⟩ | ⟨rfl, hJx3⟩)
      · clear hrun c0 cb hcg' hy hR1
        gi_wp2
        go_roundw
        case rel => exact ⟨k + 1, by omega, by go_num, by rw [HT.out]; exact hJ3, hR.trans hk3⟩
        case measure => simp [intOf]; omega
      · clear hrun c0 cb hcg' hy hR1
        gi_wp2
        refine bodyPost_ret (results_none rfl _ _ _) rfl ?_
        exact ⟨⟨_, rfl⟩, .inr ⟨_, _, _, HX.out, hJx3⟩⟩
    · obtain rfl : k = F.length := by omega
      rw [List.take_of_length_le (by omega)] at hJ
      clear hm c0 cb old
      gi_wp2
      refine bodyPost_end (results_none rfl _ _ _) rfl ?_
      exact ⟨⟨_, rfl⟩, .inl ⟨_, by omega, hJ⟩⟩

end Go.Proofs.Ytieekahlknmkfaa
