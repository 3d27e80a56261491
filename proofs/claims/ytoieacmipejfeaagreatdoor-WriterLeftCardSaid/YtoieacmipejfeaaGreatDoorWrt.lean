/- WrtM, WrtP, Wrt, WrtF, WrtA, WrtL, WrtS, WrtY, WrtX, WrtG, WrtB, WrtN, WrtV: in one text. -/
import Derived.Test.YtoieacmipejfeaaGreatDoorSht
import Derived.Test.YtoieacmipejfeaaGreatDoorHead
import Derived.Test.YtoieacmipejfeaaGreatDoorRegion
import Derived.BigRegionIn
import Derived.Stop.RegionWithIn
/- Package writer as plain data. -/
namespace Go.Proofs.YtoieacmipejfeaaGreatDoor
open Go.RowKit Go.Shelf
set_option linter.unusedVariables false

/-- A writer: its limit, its segments, the size of the last one. -/
structure WM where
  lim : Int
  segs : List Int
  size : Int
def limW (l : Int) : Int := min (max l 2100) 100000
def nmW (id : Int) : ByteArray := ⟨(nameL (heldN id)).toArray⟩
def hdW (id : Int) : ByteArray := headS (heldN id)
def lastW (w : WM) : Int := w.segs.getLast?.getD 0
/-- A segment's file is laid. -/
def layR (D : PD) (id : Int) : PD × Int :=
  let D1 := removeD D (nmW id)
  let e1 := askE D (nmW id)
  let e2 := if e1 = 0 ∨ e1 = 19 then createE D1 (nmW id) else e1
  let D2 := if e1 = 0 ∨ e1 = 19 then createD D1 (nmW id) else D1
  let e3 := if e2 = 0 then appendE D2 (nmW id) (hdW id) else e2
  let D3 := if e2 = 0 then appendD D2 (nmW id) (hdW id) else D2
  let e4 := if e3 = 0 then askE D3 (nmW id) else e3
  let D4 := if e3 = 0 then syncD D3 (nmW id) else D3
  (D4, e4)
/-- A segment is begun. -/
def begR (w : WM) (D : PD) (id : Int) : WM × PD × Int :=
  let s := w.segs ++ [id]
  let a := layR D id
  let b := if a.2 = 0 then saR a.1 s else a
  if b.2 = 0 then ({ w with segs := s, size := 16 }, b.1, 0) else (w, removeD b.1 (nmW id), b.2)
def nextR (w : WM) (D : PD) : WM × PD × Int :=
  if 200 ≤ w.segs.length ∨ 99999999 < lastW w + 1 then (w, D, 17)
  else if askE D (nmW (lastW w)) ≠ 0 then (w, syncD D (nmW (lastW w)), askE D (nmW (lastW w)))
  else begR w (syncD D (nmW (lastW w))) (lastW w + 1)
/-- Bytes are written: place (segment, at), error. -/
def wrtR (w : WM) (D : PD) (b : ByteArray) : WM × PD × (Int × Int) × Int :=
  if b.size = 0 ∨ 2084 < b.size then (w, D, (0, 0), 11)
  else
    let a := if w.lim < w.size + b.size ∧ 16 < w.size then nextR w D else (w, D, 0)
    if a.2.2 ≠ 0 then (a.1, a.2.1, (0, 0), a.2.2)
    else
      let e := appendE a.2.1 (nmW (lastW a.1)) b
      let D' := appendD a.2.1 (nmW (lastW a.1)) b
      if e ≠ 0 then (a.1, D', (0, 0), e) else ({ a.1 with size := a.1.size + b.size }, D', (lastW a.1, a.1.size), 0)
def makR (D : PD) (l : Int) : WM × PD × Int := begR ⟨limW l, [], 0⟩ D 1

end Go.Proofs.YtoieacmipejfeaaGreatDoor

/- A disk, and blocks P that stay as they were in W0; sheet.Save. Printed by gen_wrtp.py. -/
namespace Go.Proofs.YtoieacmipejfeaaGreatDoor
open Go.RowKit Go.Shelf
set_option linter.unusedVariables false
attribute [local go_sem] Oper.semAt_some wide_fn wide_round_fn

def OneP (w : World) (d : Nat) (P : Nat → Prop) (W0 : World) (D : PD) (W : World) : Prop := ∃ T, DkT W w.heap.size d D T ∧ Below w.heap.size w W ∧ (∀ k, P k → ¬ T k ∧ k < W.heap.size) ∧ ∀ k, P k → W.heap[k]? = W0.heap[k]?
theorem OneP.below {w W W' W0 : World} {d : Nat} {P : Nat → Prop} {D : PD} (h : OneP w d P W0 D W) (hB : Below W.heap.size W W') : OneP w d P W0 D W' := by
  obtain ⟨T, h1, h2, h3, h4⟩ := h
  exact ⟨T, h1.below hB, bel2 h2 hB, fun k hk => ⟨(h3 k hk).1, Nat.lt_of_lt_of_le (h3 k hk).2 hB.size⟩, fun k hk => (hB.block k (h3 k hk).2).trans (h4 k hk)⟩
theorem OneP.op {w W W' W0 : World} {d : Nat} {P T : Nat → Prop} {D D' : PD} (h : DkT W w.heap.size d D T) (hB : Below w.heap.size w W) (h3 : ∀ k, P k → ¬ T k ∧ k < W.heap.size) (h4 : ∀ k, P k → W.heap[k]? = W0.heap[k]?) (ho : OpT W w.heap.size d T D' W') : OneP w d P W0 D' W' := by
  obtain ⟨T', g1, g2, g3⟩ := ho
  refine ⟨T', g1, hB.trans (g2.toBelow hB.size fun k hk => h.ge hk), fun k hk => ⟨fun hT => ?_, Nat.lt_of_lt_of_le (h3 k hk).2 g2.size⟩, fun k hk => (g2.block k (h3 k hk).2 (h3 k hk).1).trans (h4 k hk)⟩
  rcases g3 k hT with h9 | h9
  · exact (h3 k hk).1 h9
  · have := (h3 k hk).2; omega
theorem OneP.bel {w W W0 : World} {d : Nat} {P : Nat → Prop} {D : PD} (h : OneP w d P W0 D W) : Below w.heap.size w W := h.choose_spec.2.1
theorem OneP.ris {w W W0 : World} {d : Nat} {P : Nat → Prop} {D : PD} (h : OneP w d P W0 D W) : risN D.L := h.choose_spec.1.names
theorem OneP.same {w W W0 : World} {d k : Nat} {P : Nat → Prop} {D : PD} (h : OneP w d P W0 D W) (hk : P k) : W.heap[k]? = W0.heap[k]? := h.choose_spec.2.2.2 k hk
theorem OneP.one {w W W0 : World} {d : Nat} {P : Nat → Prop} {D : PD} (h : OneP w d P W0 D W) : One w d D W := by
  obtain ⟨T, h1, h2, -⟩ := h; exact ⟨T, h1, h2⟩
theorem createP {w W W0 : World} {d n : Nat} {P : Nat → Prop} {D : PD} (h : OneP w d P W0 D W) (hf : Fit D n) (hn : n ≤ 1000000) (s : ByteArray) (hs : s.size ≤ maxLen) :
    Calls Tryz.prog 29 #[.pointer (some ⟨d, 0, none⟩), .string s] W fun e w' => e = .returned (.int .i64 (createE D s)) ∧ OneP w d P W0 (createD D s) w' := by
  obtain ⟨T, h, hB, h3, h4⟩ := h
  refine (createT h hf hn s hs).mono ?_
  rintro e w' ⟨rfl, ho⟩; exact ⟨rfl, .op h hB h3 h4 ho⟩
theorem appendP {w W W0 : World} {d n : Nat} {P : Nat → Prop} {D : PD} (h : OneP w d P W0 D W) (hf : Fit D n) (hn : n ≤ 1000000) (s b : ByteArray) (hs : s.size ≤ maxLen) (hb : b.size ≤ 1000000) :
    Calls Tryz.prog 30 #[.pointer (some ⟨d, 0, none⟩), .string s, .string b] W fun e w' => e = .returned (.int .i64 (appendE D s b)) ∧ OneP w d P W0 (appendD D s b) w' := by
  obtain ⟨T, h, hB, h3, h4⟩ := h
  refine (appendT h hf hn s b hs hb).mono ?_
  rintro e w' ⟨rfl, ho⟩; exact ⟨rfl, .op h hB h3 h4 ho⟩
theorem syncP {w W W0 : World} {d n : Nat} {P : Nat → Prop} {D : PD} (h : OneP w d P W0 D W) (hf : Fit D n) (hn : n ≤ 1000000) (s : ByteArray) (hs : s.size ≤ maxLen) :
    Calls Tryz.prog 39 #[.pointer (some ⟨d, 0, none⟩), .string s] W fun e w' => e = .returned (.int .i64 (askE D s)) ∧ OneP w d P W0 (syncD D s) w' := by
  obtain ⟨T, h, hB, h3, h4⟩ := h
  refine (syncT h hf hn s hs).mono ?_
  rintro e w' ⟨rfl, ho⟩; exact ⟨rfl, .op h hB h3 h4 ho⟩
theorem removeP {w W W0 : World} {d n : Nat} {P : Nat → Prop} {D : PD} (h : OneP w d P W0 D W) (hf : Fit D n) (hn : n ≤ 1000000) (s : ByteArray) (hs : s.size ≤ maxLen) :
    Calls Tryz.prog 43 #[.pointer (some ⟨d, 0, none⟩), .string s] W fun e w' => e = .returned (.int .i64 (askE D s)) ∧ OneP w d P W0 (removeD D s) w' := by
  obtain ⟨T, h, hB, h3, h4⟩ := h
  refine (removeT h hf hn s hs).mono ?_
  rintro e w' ⟨rfl, ho⟩; exact ⟨rfl, .op h hB h3 h4 ho⟩
theorem renameP {w W W0 : World} {d n : Nat} {P : Nat → Prop} {D : PD} (h : OneP w d P W0 D W) (hf : Fit D n) (hn : n ≤ 1000000) (s t : ByteArray) (hs : s.size ≤ maxLen) (ht : t.size ≤ maxLen) :
    Calls Tryz.prog 60 #[.pointer (some ⟨d, 0, none⟩), .string s, .string t] W fun e w' => e = .returned (.int .i64 (askE D s)) ∧ OneP w d P W0 (renameD D s t) w' := by
  obtain ⟨T, h, hB, h3, h4⟩ := h
  refine (renameT h hf hn s t hs ht).mono ?_
  rintro e w' ⟨rfl, ho⟩; exact ⟨rfl, .op h hB h3 h4 ho⟩
theorem dreadP {w W W0 : World} {d : Nat} {P : Nat → Prop} {D : PD} (h : OneP w d P W0 D W) (s : ByteArray) (hs : s.size ≤ maxLen) :
    Calls Tryz.prog 25 #[.pointer (some ⟨d, 0, none⟩), .string s] W fun e w' => e = .returned (.tuple #[.string (readB D s), .int .i64 (askE D s)]) ∧ w' = W := dreadO h.one s hs
set_option maxRecDepth 100000 in
set_option maxHeartbeats 4000000 in
theorem saveP {w W W0 : World} {d n : Nat} {P : Nat → Prop} {D : PD} (h : OneP w d P W0 D W) (hf : Fit D n) (hn : n ≤ 900000) (a : Option Addr) (len cap : Nat) (zs : List Int) (hz : RowI .i64 W a len zs) : Calls Tryz.prog 42 #[.pointer (some ⟨d, 0, none⟩), .slice a len cap] W fun e w' => e = .returned (.int .i64 (saR D zs).2) ∧ OneP w d P W0 (saR D zs).1 w' := by
  have GB := Lib.hid (shBytes_any a len cap zs W hz)
  have HO := Lib.hid h
  unfold Gives at GB
  have hp := h.ris
  cases hs : shB zs
  · have HR := Lib.hid (show saR D zs = (D, 11) by unfold saR; rw [hs]; rfl)
    have hE : shE zs = 11 := by unfold shE; rw [hs]; rfl
    rw [hE] at GB
    generalize shY zs = b at *
    clear h hf hz hs hE hp
    go_enter Tryz.func42, Tryz.ntmps42
    go_wp2_with (go_at_call 59; ((with_reducible refine GB.out.mono ?_); rintro e w1 ⟨rfl, hB1⟩; have hO0 := OneP.below HO.out hB1))
    go_ret
    rw [HR.out]
    exact ⟨rfl, hO0⟩
  · have hR : saR D zs = saB D (shY zs) := by unfold saR; rw [hs]; rfl
    have hE : shE zs = 0 := by unfold shE; rw [hs]; rfl
    have hbs := shY_size zs
    rw [hE] at GB
    rw [hR]
    generalize shY zs = b at *
    clear hz hs hE hR
    have hf1 : Fit (sa1 D) (n + 1) := hf.remove _
    have hf2 : Fit (sa2 D) (n + 2) := hf1.create _
    have G1 := Lib.hid (fun W1 (h1 : OneP w d P W0 D W1) => (show Calls Tryz.prog 43 #[.pointer (some ⟨d, 0, none⟩), .string ⟨#[115, 104, 101, 101, 116, 46, 110, 101, 119]⟩] W1 fun e w' => e = .returned (.int .i64 (askE D ⟨#[115, 104, 101, 101, 116, 46, 110, 101, 119]⟩)) ∧ OneP w d P W0 (sa1 D) w' from removeP h1 hf (by omega) ⟨#[115, 104, 101, 101, 116, 46, 110, 101, 119]⟩ (by decide)))
    have G2 := Lib.hid (fun W1 (h1 : OneP w d P W0 (sa1 D) W1) => (show Calls Tryz.prog 29 #[.pointer (some ⟨d, 0, none⟩), .string ⟨#[115, 104, 101, 101, 116, 46, 110, 101, 119]⟩] W1 fun e w' => e = .returned (.int .i64 (createE (sa1 D) ⟨#[115, 104, 101, 101, 116, 46, 110, 101, 119]⟩)) ∧ OneP w d P W0 (sa2 D) w' from createP h1 hf1 (by omega) ⟨#[115, 104, 101, 101, 116, 46, 110, 101, 119]⟩ (by decide)))
    have G3 := Lib.hid (fun W1 (h1 : OneP w d P W0 (sa2 D) W1) => (show Calls Tryz.prog 30 #[.pointer (some ⟨d, 0, none⟩), .string ⟨#[115, 104, 101, 101, 116, 46, 110, 101, 119]⟩, .string b] W1 fun e w' => e = .returned (.int .i64 (appendE (sa2 D) ⟨#[115, 104, 101, 101, 116, 46, 110, 101, 119]⟩ b)) ∧ OneP w d P W0 (sa3 D b) w' from appendP h1 hf2 (by omega) ⟨#[115, 104, 101, 101, 116, 46, 110, 101, 119]⟩ b (by decide) (by omega)))
    have G4 := Lib.hid (fun W1 (h1 : OneP w d P W0 (sa3 D b) W1) (hf3 : Fit (sa3 D b) (n + 3)) => (show Calls Tryz.prog 39 #[.pointer (some ⟨d, 0, none⟩), .string ⟨#[115, 104, 101, 101, 116, 46, 110, 101, 119]⟩] W1 fun e w' => e = .returned (.int .i64 (askE (sa3 D b) ⟨#[115, 104, 101, 101, 116, 46, 110, 101, 119]⟩)) ∧ OneP w d P W0 (sa4 D b) w' from syncP h1 hf3 (by omega) ⟨#[115, 104, 101, 101, 116, 46, 110, 101, 119]⟩ (by decide)))
    have G5 := Lib.hid (fun W1 (h1 : OneP w d P W0 (sa4 D b) W1) (hf4 : Fit (sa4 D b) (n + 4)) => (show Calls Tryz.prog 60 #[.pointer (some ⟨d, 0, none⟩), .string ⟨#[115, 104, 101, 101, 116, 46, 110, 101, 119]⟩, .string ⟨#[115, 104, 101, 101, 116]⟩] W1 fun e w' => e = .returned (.int .i64 (askE (sa4 D b) ⟨#[115, 104, 101, 101, 116, 46, 110, 101, 119]⟩)) ∧ OneP w d P W0 (sa5 D b) w' from renameP h1 hf4 (by omega) ⟨#[115, 104, 101, 101, 116, 46, 110, 101, 119]⟩ ⟨#[115, 104, 101, 101, 116]⟩ (by decide) (by decide)))
    have HF2 := Lib.hid hf2
    clear h hf hf1 hf2 hp
    rcases askE_cases D ⟨#[115, 104, 101, 101, 116, 46, 110, 101, 119]⟩ with e1 | e1 | e1
    · by_cases e2 : createE (sa1 D) ⟨#[115, 104, 101, 101, 116, 46, 110, 101, 119]⟩ = 0
      · by_cases e3 : appendE (sa2 D) ⟨#[115, 104, 101, 101, 116, 46, 110, 101, 119]⟩ b = 0
        · by_cases e4 : askE (sa3 D b) ⟨#[115, 104, 101, 101, 116, 46, 110, 101, 119]⟩ = 0
          · have HR := Lib.hid (show saB D b = (sa5 D b, askE (sa4 D b) ⟨#[115, 104, 101, 101, 116, 46, 110, 101, 119]⟩) by unfold saB; rw [if_neg (by rw [e1]; decide), if_neg (by simp [e2]), if_neg (by simp [e3]), if_neg (by simp [e4])])
            rw [e1] at G1
            rw [e2] at G2
            rw [e3] at G3
            rw [e4] at G4
            generalize askE (sa4 D b) ⟨#[115, 104, 101, 101, 116, 46, 110, 101, 119]⟩ = e5 at *
            clear e1 e2 e3 e4
            go_enter Tryz.func42, Tryz.ntmps42
            go_wp2_with (first
              | (go_at_call 59; ((with_reducible refine GB.out.mono ?_); rintro e w1 ⟨rfl, hB1⟩; have hO0 := OneP.below HO.out hB1))
              | (go_at_call 43; ((with_reducible refine (G1.out _ hO0).mono ?_); rintro e w2 ⟨rfl, hO1⟩; clear hO0))
              | (go_at_call 29; ((with_reducible refine (G2.out _ hO1).mono ?_); rintro e w3 ⟨rfl, hO2⟩; clear hO1))
              | (go_at_call 30; ((with_reducible refine (G3.out _ hO2).mono ?_); rintro e w4 ⟨rfl, hO3⟩; have hf3 := Lib.hid (show Fit (sa3 D b) (n + 3) from HF2.out.append (ris_names (OneP.ris hO2)) ⟨#[115, 104, 101, 101, 116, 46, 110, 101, 119]⟩ b); clear hO2))
              | (go_at_call 39; ((with_reducible refine (G4.out _ hO3 hf3.out).mono ?_); rintro e w5 ⟨rfl, hO4⟩; have hf4 := Lib.hid (show Fit (sa4 D b) (n + 4) from hf3.out.sync ⟨#[115, 104, 101, 101, 116, 46, 110, 101, 119]⟩); clear hO3))
              | (go_at_call 60; ((with_reducible refine (G5.out _ hO4 hf4.out).mono ?_); rintro e w6 ⟨rfl, hO5⟩; clear hO4)))
            go_ret
            rw [HR.out]
            exact ⟨rfl, hO5⟩
          · have HR := Lib.hid (show saB D b = (sa4 D b, askE (sa3 D b) ⟨#[115, 104, 101, 101, 116, 46, 110, 101, 119]⟩) by unfold saB; rw [if_neg (by rw [e1]; decide), if_neg (by simp [e2]), if_neg (by simp [e3]), if_pos e4])
            rw [e1] at G1
            rw [e2] at G2
            rw [e3] at G3
            generalize askE (sa3 D b) ⟨#[115, 104, 101, 101, 116, 46, 110, 101, 119]⟩ = er at *
            clear e1 e2 e3 G5
            go_enter Tryz.func42, Tryz.ntmps42
            go_wp2_with (first
              | (go_at_call 59; ((with_reducible refine GB.out.mono ?_); rintro e w1 ⟨rfl, hB1⟩; have hO0 := OneP.below HO.out hB1))
              | (go_at_call 43; ((with_reducible refine (G1.out _ hO0).mono ?_); rintro e w2 ⟨rfl, hO1⟩; clear hO0))
              | (go_at_call 29; ((with_reducible refine (G2.out _ hO1).mono ?_); rintro e w3 ⟨rfl, hO2⟩; clear hO1))
              | (go_at_call 30; ((with_reducible refine (G3.out _ hO2).mono ?_); rintro e w4 ⟨rfl, hO3⟩; have hf3 := Lib.hid (show Fit (sa3 D b) (n + 3) from HF2.out.append (ris_names (OneP.ris hO2)) ⟨#[115, 104, 101, 101, 116, 46, 110, 101, 119]⟩ b); clear hO2))
              | (go_at_call 39; ((with_reducible refine (G4.out _ hO3 hf3.out).mono ?_); rintro e w5 ⟨rfl, hO4⟩; have hf4 := Lib.hid (show Fit (sa4 D b) (n + 4) from hf3.out.sync ⟨#[115, 104, 101, 101, 116, 46, 110, 101, 119]⟩); clear hO3)))
            go_ret
            rw [HR.out]
            exact ⟨rfl, hO4⟩
        · have HR := Lib.hid (show saB D b = (sa3 D b, appendE (sa2 D) ⟨#[115, 104, 101, 101, 116, 46, 110, 101, 119]⟩ b) by unfold saB; rw [if_neg (by rw [e1]; decide), if_neg (by simp [e2]), if_pos e3])
          rw [e1] at G1
          rw [e2] at G2
          generalize appendE (sa2 D) ⟨#[115, 104, 101, 101, 116, 46, 110, 101, 119]⟩ b = er at *
          clear e1 e2 G4 G5
          go_enter Tryz.func42, Tryz.ntmps42
          go_wp2_with (first
            | (go_at_call 59; ((with_reducible refine GB.out.mono ?_); rintro e w1 ⟨rfl, hB1⟩; have hO0 := OneP.below HO.out hB1))
            | (go_at_call 43; ((with_reducible refine (G1.out _ hO0).mono ?_); rintro e w2 ⟨rfl, hO1⟩; clear hO0))
            | (go_at_call 29; ((with_reducible refine (G2.out _ hO1).mono ?_); rintro e w3 ⟨rfl, hO2⟩; clear hO1))
            | (go_at_call 30; ((with_reducible refine (G3.out _ hO2).mono ?_); rintro e w4 ⟨rfl, hO3⟩; have hf3 := Lib.hid (show Fit (sa3 D b) (n + 3) from HF2.out.append (ris_names (OneP.ris hO2)) ⟨#[115, 104, 101, 101, 116, 46, 110, 101, 119]⟩ b); clear hO2)))
          go_ret
          rw [HR.out]
          exact ⟨rfl, hO3⟩
      · have HR := Lib.hid (show saB D b = (sa2 D, createE (sa1 D) ⟨#[115, 104, 101, 101, 116, 46, 110, 101, 119]⟩) by unfold saB; rw [if_neg (by rw [e1]; decide), if_pos e2])
        rw [e1] at G1
        generalize createE (sa1 D) ⟨#[115, 104, 101, 101, 116, 46, 110, 101, 119]⟩ = er at *
        clear e1 G3 G4 G5
        go_enter Tryz.func42, Tryz.ntmps42
        go_wp2_with (first
          | (go_at_call 59; ((with_reducible refine GB.out.mono ?_); rintro e w1 ⟨rfl, hB1⟩; have hO0 := OneP.below HO.out hB1))
          | (go_at_call 43; ((with_reducible refine (G1.out _ hO0).mono ?_); rintro e w2 ⟨rfl, hO1⟩; clear hO0))
          | (go_at_call 29; ((with_reducible refine (G2.out _ hO1).mono ?_); rintro e w3 ⟨rfl, hO2⟩; clear hO1)))
        go_ret
        rw [HR.out]
        exact ⟨rfl, hO2⟩
    · have HR := Lib.hid (show saB D b = (D, 18) by unfold saB; rw [if_pos e1])
      have HS := Lib.hid (show sa1 D = D by unfold sa1 removeD; rw [if_neg (by rw [e1]; decide)])
      rw [e1] at G1
      clear e1 G2 G3 G4 G5
      go_enter Tryz.func42, Tryz.ntmps42
      go_wp2_with (first
        | (go_at_call 59; ((with_reducible refine GB.out.mono ?_); rintro e w1 ⟨rfl, hB1⟩; have hO0 := OneP.below HO.out hB1))
        | (go_at_call 43; ((with_reducible refine (G1.out _ hO0).mono ?_); rintro e w2 ⟨rfl, hO1⟩; clear hO0)))
      go_ret
      rw [HR.out]
      exact ⟨rfl, by have := hO1; rwa [HS.out] at this⟩
    · by_cases e2 : createE (sa1 D) ⟨#[115, 104, 101, 101, 116, 46, 110, 101, 119]⟩ = 0
      · by_cases e3 : appendE (sa2 D) ⟨#[115, 104, 101, 101, 116, 46, 110, 101, 119]⟩ b = 0
        · by_cases e4 : askE (sa3 D b) ⟨#[115, 104, 101, 101, 116, 46, 110, 101, 119]⟩ = 0
          · have HR := Lib.hid (show saB D b = (sa5 D b, askE (sa4 D b) ⟨#[115, 104, 101, 101, 116, 46, 110, 101, 119]⟩) by unfold saB; rw [if_neg (by rw [e1]; decide), if_neg (by simp [e2]), if_neg (by simp [e3]), if_neg (by simp [e4])])
            rw [e1] at G1
            rw [e2] at G2
            rw [e3] at G3
            rw [e4] at G4
            generalize askE (sa4 D b) ⟨#[115, 104, 101, 101, 116, 46, 110, 101, 119]⟩ = e5 at *
            clear e1 e2 e3 e4
            go_enter Tryz.func42, Tryz.ntmps42
            go_wp2_with (first
              | (go_at_call 59; ((with_reducible refine GB.out.mono ?_); rintro e w1 ⟨rfl, hB1⟩; have hO0 := OneP.below HO.out hB1))
              | (go_at_call 43; ((with_reducible refine (G1.out _ hO0).mono ?_); rintro e w2 ⟨rfl, hO1⟩; clear hO0))
              | (go_at_call 29; ((with_reducible refine (G2.out _ hO1).mono ?_); rintro e w3 ⟨rfl, hO2⟩; clear hO1))
              | (go_at_call 30; ((with_reducible refine (G3.out _ hO2).mono ?_); rintro e w4 ⟨rfl, hO3⟩; have hf3 := Lib.hid (show Fit (sa3 D b) (n + 3) from HF2.out.append (ris_names (OneP.ris hO2)) ⟨#[115, 104, 101, 101, 116, 46, 110, 101, 119]⟩ b); clear hO2))
              | (go_at_call 39; ((with_reducible refine (G4.out _ hO3 hf3.out).mono ?_); rintro e w5 ⟨rfl, hO4⟩; have hf4 := Lib.hid (show Fit (sa4 D b) (n + 4) from hf3.out.sync ⟨#[115, 104, 101, 101, 116, 46, 110, 101, 119]⟩); clear hO3))
              | (go_at_call 60; ((with_reducible refine (G5.out _ hO4 hf4.out).mono ?_); rintro e w6 ⟨rfl, hO5⟩; clear hO4)))
            go_ret
            rw [HR.out]
            exact ⟨rfl, hO5⟩
          · have HR := Lib.hid (show saB D b = (sa4 D b, askE (sa3 D b) ⟨#[115, 104, 101, 101, 116, 46, 110, 101, 119]⟩) by unfold saB; rw [if_neg (by rw [e1]; decide), if_neg (by simp [e2]), if_neg (by simp [e3]), if_pos e4])
            rw [e1] at G1
            rw [e2] at G2
            rw [e3] at G3
            generalize askE (sa3 D b) ⟨#[115, 104, 101, 101, 116, 46, 110, 101, 119]⟩ = er at *
            clear e1 e2 e3 G5
            go_enter Tryz.func42, Tryz.ntmps42
            go_wp2_with (first
              | (go_at_call 59; ((with_reducible refine GB.out.mono ?_); rintro e w1 ⟨rfl, hB1⟩; have hO0 := OneP.below HO.out hB1))
              | (go_at_call 43; ((with_reducible refine (G1.out _ hO0).mono ?_); rintro e w2 ⟨rfl, hO1⟩; clear hO0))
              | (go_at_call 29; ((with_reducible refine (G2.out _ hO1).mono ?_); rintro e w3 ⟨rfl, hO2⟩; clear hO1))
              | (go_at_call 30; ((with_reducible refine (G3.out _ hO2).mono ?_); rintro e w4 ⟨rfl, hO3⟩; have hf3 := Lib.hid (show Fit (sa3 D b) (n + 3) from HF2.out.append (ris_names (OneP.ris hO2)) ⟨#[115, 104, 101, 101, 116, 46, 110, 101, 119]⟩ b); clear hO2))
              | (go_at_call 39; ((with_reducible refine (G4.out _ hO3 hf3.out).mono ?_); rintro e w5 ⟨rfl, hO4⟩; have hf4 := Lib.hid (show Fit (sa4 D b) (n + 4) from hf3.out.sync ⟨#[115, 104, 101, 101, 116, 46, 110, 101, 119]⟩); clear hO3)))
            go_ret
            rw [HR.out]
            exact ⟨rfl, hO4⟩
        · have HR := Lib.hid (show saB D b = (sa3 D b, appendE (sa2 D) ⟨#[115, 104, 101, 101, 116, 46, 110, 101, 119]⟩ b) by unfold saB; rw [if_neg (by rw [e1]; decide), if_neg (by simp [e2]), if_pos e3])
          rw [e1] at G1
          rw [e2] at G2
          generalize appendE (sa2 D) ⟨#[115, 104, 101, 101, 116, 46, 110, 101, 119]⟩ b = er at *
          clear e1 e2 G4 G5
          go_enter Tryz.func42, Tryz.ntmps42
          go_wp2_with (first
            | (go_at_call 59; ((with_reducible refine GB.out.mono ?_); rintro e w1 ⟨rfl, hB1⟩; have hO0 := OneP.below HO.out hB1))
            | (go_at_call 43; ((with_reducible refine (G1.out _ hO0).mono ?_); rintro e w2 ⟨rfl, hO1⟩; clear hO0))
            | (go_at_call 29; ((with_reducible refine (G2.out _ hO1).mono ?_); rintro e w3 ⟨rfl, hO2⟩; clear hO1))
            | (go_at_call 30; ((with_reducible refine (G3.out _ hO2).mono ?_); rintro e w4 ⟨rfl, hO3⟩; have hf3 := Lib.hid (show Fit (sa3 D b) (n + 3) from HF2.out.append (ris_names (OneP.ris hO2)) ⟨#[115, 104, 101, 101, 116, 46, 110, 101, 119]⟩ b); clear hO2)))
          go_ret
          rw [HR.out]
          exact ⟨rfl, hO3⟩
      · have HR := Lib.hid (show saB D b = (sa2 D, createE (sa1 D) ⟨#[115, 104, 101, 101, 116, 46, 110, 101, 119]⟩) by unfold saB; rw [if_neg (by rw [e1]; decide), if_pos e2])
        rw [e1] at G1
        generalize createE (sa1 D) ⟨#[115, 104, 101, 101, 116, 46, 110, 101, 119]⟩ = er at *
        clear e1 G3 G4 G5
        go_enter Tryz.func42, Tryz.ntmps42
        go_wp2_with (first
          | (go_at_call 59; ((with_reducible refine GB.out.mono ?_); rintro e w1 ⟨rfl, hB1⟩; have hO0 := OneP.below HO.out hB1))
          | (go_at_call 43; ((with_reducible refine (G1.out _ hO0).mono ?_); rintro e w2 ⟨rfl, hO1⟩; clear hO0))
          | (go_at_call 29; ((with_reducible refine (G2.out _ hO1).mono ?_); rintro e w3 ⟨rfl, hO2⟩; clear hO1)))
        go_ret
        rw [HR.out]
        exact ⟨rfl, hO2⟩

end Go.Proofs.YtoieacmipejfeaaGreatDoor

/- Package writer: a writer in memory beside its disk. -/
namespace Go.Proofs.YtoieacmipejfeaaGreatDoor
open Go.RowKit Go.Shelf
set_option linter.unusedVariables false
attribute [local go_sem] Oper.semAt_some wide_fn wide_round_fn

/-- The blocks of a writer at p whose row is v. -/
def wrP (p : Nat) (v : Value) (k : Nat) : Prop := k = p ∨ some k = v.ownBlock
/-- A writer at p over the disk d; all of both is new since w. -/
def WrO (w : World) (d p : Nat) (M : WM) (D : PD) (W : World) : Prop :=
  ∃ v, OneP w d (wrP p v) W D W ∧ W.heap[p]? = some (.cells #[.pointer (some ⟨d, 0, none⟩), .int .i64 M.lim, v, .int .i64 M.size] 75 (0, 0)) ∧ W.ownsRow w.heap.size 3 1 v M.segs.length (M.segs.map fun z => .int .i64 z) ∧ w.heap.size ≤ p ∧ some p ≠ v.ownBlock
theorem WrO.below {w W W' : World} {d p : Nat} {M : WM} {D : PD} (h : WrO w d p M D W) (hB : Below W.heap.size W W') : WrO w d p M D W' := by
  obtain ⟨v, h1, h2, h3, h4⟩ := h
  obtain ⟨T, a1, a2, a3, a4⟩ := h1.below hB
  exact ⟨v, ⟨T, a1, a2, a3, fun k hk => rfl⟩, (hB.block _ (Array.getElem?_eq_some_iff.1 h2).1).trans h2, ownsRow_below (n := 0) h3 hB, h4⟩
theorem own_keep {W W' : World} {B : Nat} {e : TypeId} {sz n : Nat} {v : Value} {xs : List Value} (h : W.ownsRow B e sz v n xs) (hk : ∀ k, some k = v.ownBlock → W'.heap[k]? = W.heap[k]?) : W'.ownsRow B e sz v n xs := by
  refine ⟨h.1, ?_⟩
  rcases h.2 with h2 | ⟨g, cap, cur, rfl, hb, hg, r⟩
  · exact .inl h2
  · exact .inr ⟨g, cap, cur, rfl, hb, (hk g rfl).trans hg, r⟩
/-- The disk has turned. -/
theorem WrO.disk {w W W' : World} {d p : Nat} {v : Value} {M : WM} {D D' : PD} (h2 : W.heap[p]? = some (.cells #[.pointer (some ⟨d, 0, none⟩), .int .i64 M.lim, v, .int .i64 M.size] 75 (0, 0))) (h3 : W.ownsRow w.heap.size 3 1 v M.segs.length (M.segs.map fun z => .int .i64 z)) (h4 : w.heap.size ≤ p ∧ some p ≠ v.ownBlock) (h : OneP w d (wrP p v) W D' W') : WrO w d p M D' W' := by
  obtain ⟨T, a1, a2, a3, a4⟩ := h
  exact ⟨v, ⟨T, a1, a2, a3, fun k hk => rfl⟩, (a4 p (.inl rfl)).trans h2, own_keep h3 (fun k hk => a4 k (.inr hk)), h4⟩
theorem wheld_any (l : Int) (W : World) : Gives Tryz.prog 32 #[.int .i64 l] W (.int .i64 (limW l)) := by
  unfold Gives limW
  go_enter Tryz.func32, Tryz.ntmps32
  go_wp2
  go_ret
  exact ⟨rfl, Below.refl _ _⟩

end Go.Proofs.YtoieacmipejfeaaGreatDoor

/- Package writer: from(0), list. -/
namespace Go.Proofs.YtoieacmipejfeaaGreatDoor
open Go.RowKit Go.Shelf
set_option linter.unusedVariables false
attribute [local go_sem] Oper.semAt_some wide_fn wide_round_fn

set_option maxRecDepth 100000 in
set_option maxHeartbeats 4000000 in
theorem wfrom_iter (Bw Bk p n cap : Nat) (a : Option Addr) (zs : List Int) (hzl : zs.length = n) (hnc : n ≤ cap) (hn : n < 1000000) (S : Nat → Prop) (w0 : World) (h1 : w0.cell? ⟨Bw, 0, none⟩ = some (.pointer (some ⟨p, 0, none⟩))) (h2 : w0.cell? ⟨Bk, 0, none⟩ = some (.int .i64 0)) (h3 : w0.cell? ⟨p, 2, none⟩ = some (.slice a n cap)) (h4 : 0 < n → ∃ b off, a = some ⟨b, off, none⟩ ∧ S b ∧ ∀ i (h : i < zs.length), w0.cell? ⟨b, off + i, none⟩ = some (.int .i64 zs[i])) (hS : S Bw ∧ S Bk ∧ S p) :
    Iter Tryz.prog 58 #[.pointer (some ⟨Bw, 0, none⟩), .pointer (some ⟨Bk, 0, none⟩)] (fun z : Int => #[.int .i64 z]) zs S (fun _ => False) w0 := by
  intro l J Jx W hW hJs _ hY h0
  have c1 := hW.cell h1 hS.1
  have c2 := hW.cell h2 hS.2.1
  have c3 := hW.cell h3 hS.2.2
  have d1 : W.drew.cell? ⟨Bw, 0, none⟩ = _ := c1
  have d2 : W.drew.cell? ⟨Bk, 0, none⟩ = _ := c2
  have d3 : W.drew.cell? ⟨p, 2, none⟩ = _ := c3
  have HW := Lib.hid hW
  have H4 := Lib.hid h4
  have HZ := Lib.hid hzl
  have HJ0 := Lib.hid (hJs _ _ _ h0 (Moves.below (Below.refl W.heap.size W).drew))
  clear h1 h2 h3 h4 hW hzl h0
  refine callsIn_of_wp Tryz.func58 rfl trivial ?_ rfl
  simp only [Tryz.ntmps58, List.size_toArray, List.length_cons, List.length_nil, Nat.reduceAdd, Nat.reduceSub, Array.replicate_succ, Array.replicate_zero, List.push_toArray, List.append_toArray, List.nil_append, List.cons_append]
  gi_wp2
  gi_region
  all_goals
    clear c1 c2 c3 d1 d2 d3
    gi_wp2
    gi_loopw [5, 13] (fun s5 q wr => ∃ k : Nat, k ≤ n ∧ (∃ u, u = s5) ∧ q = .int .i64 (k : Int) ∧ J (zs.take k) wr ∧ Rd W.heap.size S W wr) (fun _ q _ => n - (intOf q).toNat)
    case atStart => exact ⟨0, Nat.zero_le _, ⟨_, rfl⟩, rfl, HJ0.out, (Rd.refl _ _ _).drew⟩
    case round =>
    obtain ⟨k, hk, ⟨u5, rfl⟩, rfl, hJ, hR⟩ := hrel
    by_cases hlt : k < n
    · have hlt' : (k : Int) < (n : Int) := by omega
      have hw9 : IntKind.i64.wrap ((k : Int) + 1) = ((k + 1 : Nat) : Int) := (IntWalk.i64_in _ (by omega)).trans (by push_cast; rfl)
      obtain ⟨b, off, rfl, hSb, hc⟩ := H4.out (by omega)
      have hkl : k < zs.length := by have := HZ.out; omega
      have cc := hR.cell (HW.out.cell (hc k hkl) hSb) hSb
      have HX := Lib.hid (show zs = zs.take k ++ zs[k] :: zs.drop (k + 1) by rw [List.getElem_cons_drop hkl, List.take_append_drop])
      have HT := Lib.hid (show zs.take (k + 1) = zs.take k ++ [zs[k]] from List.take_succ_eq_append_getElem hkl)
      obtain ⟨fn, tmps, assign, body, hyy, hR1⟩ := hY (zs.take k) zs[k] (zs.drop (k + 1)) wr HX.out hJ
      generalize zs[k] = z at *
      clear hc hSb
      gi_wp2
      refine (roundIn_wide_n hR1).mono ?_
      rintro e W3 (⟨rfl, hJ3, hk3⟩ | ⟨rfl, hJx3⟩)
      · clear hyy hR1 cc
        gi_wp2
        go_roundw
        case rel => exact ⟨k + 1, by omega, ⟨_, rfl⟩, by go_num, by rw [HT.out]; exact hJ3, hR.trans hk3⟩
        case measure => simp [intOf]; omega
      · gi_wp2
        refine bodyPost_ret (results_none rfl _ _ _) rfl ?_
        exact ⟨⟨_, rfl⟩, .inr ⟨_, _, _, HX.out, hJx3⟩⟩
    · have hOk : k = n := by omega
      have hge : ¬ (k : Int) < (n : Int) := by omega
      rw [List.take_of_length_le (by have := HZ.out; omega)] at hJ
      gi_wp2
      refine bodyPost_end (results_none rfl _ _ _) rfl ?_
      exact ⟨⟨_, rfl⟩, .inl hJ⟩
theorem twoW_a (w : World) (A B : Array Value) (T U : TypeId) : ((w.alloc (.cells A T)).alloc (.cells B U)).heap[w.heap.size]? = some (.cells A T (0, 0)) := (Below.heap_alloc _ _ _ (by simp)).trans (World.alloc_heap_new w _)
theorem twoW_b (w : World) (A B : Array Value) (T U : TypeId) : ((w.alloc (.cells A T)).alloc (.cells B U)).heap[w.heap.size + 1]? = some (.cells B U (0, 0)) := by
  have := World.alloc_heap_new (w.alloc (.cells A T)) (.cells B U)
  rwa [World.size_alloc] at this
theorem wfrom_makes (p : Nat) (w : World) (hp : p < w.heap.size) (n cap : Nat) (a : Option Addr) (zs : List Int) (hzl : zs.length = n) (hnc : n ≤ cap) (hn : n < 1000000) (h3 : w.cell? ⟨p, 2, none⟩ = some (.slice a n cap)) (h4 : 0 < n → ∃ b off, a = some ⟨b, off, none⟩ ∧ b < w.heap.size ∧ ∀ i (h : i < zs.length), w.cell? ⟨b, off + i, none⟩ = some (.int .i64 zs[i])) :
    Calls Tryz.prog 41 #[.pointer (some ⟨p, 0, none⟩), .int .i64 0] w fun e w' => ∃ lb, e = .returned (.func (.func 58) #[] lb) ∧ w' = (w.alloc (.cells #[.pointer (some ⟨p, 0, none⟩)] 27)).alloc (.cells #[.int .i64 0] 3) ∧
      Iter Tryz.prog 58 lb (fun z : Int => #[.int .i64 z]) zs (fun k => k < w.heap.size + 2) (fun _ => False) w' := by
  have b1 := twoW_a w #[.pointer (some ⟨p, 0, none⟩)] #[.int .i64 0] 27 3
  have b2 := twoW_b w #[.pointer (some ⟨p, 0, none⟩)] #[.int .i64 0] 27 3
  have hB := ((Below.refl w.heap.size w).alloc (Nat.le_refl _) (.cells #[.pointer (some ⟨p, 0, none⟩)] 27)).alloc (by simp) (.cells #[.int .i64 0] 3)
  have HI := Lib.hid (wfrom_iter w.heap.size (w.heap.size + 1) p n cap a zs hzl hnc hn (fun k => k < w.heap.size + 2) _ (cell_of_row _ _ 0 _ _ _ b1) (cell_of_row _ _ 0 _ _ _ b2) ((hB.cell (p := ⟨p, 2, none⟩) hp).trans h3) (fun h0 => by
    obtain ⟨b, off, e, hb, hc⟩ := h4 h0
    exact ⟨b, off, e, (show b < w.heap.size + 2 by omega), fun i hi => (hB.cell (p := ⟨b, off + i, none⟩) hb).trans (hc i hi)⟩) ⟨(show w.heap.size < w.heap.size + 2 by omega), (show w.heap.size + 1 < w.heap.size + 2 by omega), (show p < w.heap.size + 2 by omega)⟩)
  clear h3 h4 b1 b2 hB
  go_enter Tryz.func41, Tryz.ntmps41
  go_wp2
  go_ret
  exact ⟨_, rfl, rfl, HI.out⟩

end Go.Proofs.YtoieacmipejfeaaGreatDoor

/- Package writer: active, file. -/
namespace Go.Proofs.YtoieacmipejfeaaGreatDoor
open Go.RowKit Go.Shelf
set_option linter.unusedVariables false
attribute [local go_sem] Oper.semAt_some wide_fn wide_round_fn

/-- The writer's row. -/
theorem WrO.row {w W : World} {d p : Nat} {M : WM} {D : PD} (h : WrO w d p M D W) : ∃ a cap, W.heap[p]? = some (.cells #[.pointer (some ⟨d, 0, none⟩), .int .i64 M.lim, .slice a M.segs.length cap, .int .i64 M.size] 75 (0, 0)) ∧ M.segs.length ≤ cap ∧ (0 < M.segs.length → ∃ b off, a = some ⟨b, off, none⟩ ∧ b < W.heap.size ∧ ∀ i (h : i < M.segs.length), W.cell? ⟨b, off + i, none⟩ = some (.int .i64 M.segs[i])) := by
  obtain ⟨v, -, h2, h3, -⟩ := h
  obtain ⟨a, cap, rfl, hc, hr⟩ := rowV_own h3
  refine ⟨a, cap, h2, hc, fun h0 => ?_⟩
  obtain ⟨b, off, e, hb, hx⟩ := hr.2.2 h0
  exact ⟨b, off, e, hb, fun i hi => (hx i (by simpa using hi)).trans (by simp)⟩
set_option maxRecDepth 100000 in
set_option maxHeartbeats 2000000 in
theorem wactive_any {w W : World} {d p : Nat} {M : WM} {D : PD} (h : WrO w d p M D W) (hn : 0 < M.segs.length ∧ M.segs.length < 1000000) : Gives Tryz.prog 38 #[.pointer (some ⟨p, 0, none⟩)] W (.int .i64 (lastW M)) := by
  obtain ⟨a, cap, hb, hc, hr⟩ := h.row
  have hn6 := hn.2
  obtain ⟨m, hm⟩ : ∃ m, M.segs.length = m + 1 := ⟨M.segs.length - 1, by omega⟩
  obtain ⟨b, off, rfl, hbl, hx⟩ := hr hn.1
  have hl : lastW M = M.segs[m]'(by omega) := by
    unfold lastW
    have e : M.segs.length - 1 = m := by omega
    rw [List.getLast?_eq_getElem?, e, List.getElem?_eq_getElem (by omega)]; rfl
  have e1 := hx m (by omega)
  rw [← hl] at e1
  have c2 : W.cell? ⟨p, 2, none⟩ = _ := cell_of_row _ _ 2 _ _ _ hb
  rw [hm] at c2 hc
  have d2 : W.drew.cell? ⟨p, 2, none⟩ = _ := c2
  have e2 : W.drew.cell? ⟨b, off + m, none⟩ = _ := e1
  have hw : IntKind.i64.wrap (((m + 1 : Nat) : Int) - 1) = (m : Int) := (IntWalk.i64_in _ (by omega)).trans (by omega)
  have hw2 : IntKind.i64.wrap ((m : Int) + 1 - 1) = (m : Int) := (IntWalk.i64_in _ (by omega)).trans (by omega)
  have hw3 : IntKind.i64.wrap (m : Int) = (m : Int) := IntWalk.i64_in _ (by omega)
  have hmm : m < m + 1 := Nat.lt_succ_self _
  generalize lastW M = z at *
  clear h hb hr hx hl hm hn
  unfold Gives
  go_enter Tryz.func38, Tryz.ntmps38
  go_wp2
  go_region
  all_goals
    go_wp2
    go_ret
    exact ⟨rfl, (Below.refl _ _).drew⟩
set_option maxRecDepth 100000 in
theorem wfile_any {w W : World} {d p : Nat} {M : WM} {D : PD} (h : WrO w d p M D W) (hn : 0 < M.segs.length ∧ M.segs.length < 1000000) : Gives Tryz.prog 37 #[.pointer (some ⟨p, 0, none⟩)] W (.string (nmW (lastW M))) := by
  have GA := Lib.hid (wactive_any h hn)
  have GN := Lib.hid (fun W' => name_any (lastW M) W')
  unfold nmW
  clear h hn
  unfold Gives at *
  go_enter Tryz.func37, Tryz.ntmps37
  go_wp2_with (first
    | (go_at_call 38; ((with_reducible refine GA.out.mono ?_); rintro e w1 ⟨rfl, hB1⟩))
    | (go_at_call 44; ((with_reducible refine (GN.out _).mono ?_); rintro e w2 ⟨rfl, hB2⟩)))
  go_ret
  exact ⟨rfl, hB1.trans (hB2.mono hB1.size)⟩

end Go.Proofs.YtoieacmipejfeaaGreatDoor

/- Package writer: list. -/
namespace Go.Proofs.YtoieacmipejfeaaGreatDoor
open Go.RowKit Go.Shelf
set_option linter.unusedVariables false
attribute [local go_sem] Oper.semAt_some wide_fn wide_round_fn

theorem Iter.later {P : Program} {g : Nat} {lb : Array Value} {α : Type} {encs : α → Array Value} {xs : List α} {S T : Nat → Prop} {w0 W1 : World} (h : Iter P g lb encs xs S T w0) (hB : Below w0.heap.size w0 W1) : Iter P g lb encs xs S T W1 := fun l J Jx W hW hJ hJx hY h0 =>
  h l J Jx W ⟨hW.os.trans hB.os, hW.tape.trans hB.tape, hW.output.trans hB.output, Nat.le_trans hB.size hW.size, fun k o ho hc => by
    have hk := (Array.getElem?_eq_some_iff.1 ho).1
    exact hW.block k o ((hB.block k hk).trans ho) (hc.imp id (fun x => absurd x.1 (by omega)))⟩ hJ hJx hY h0
set_option maxRecDepth 100000 in
set_option maxHeartbeats 4000000 in
theorem wlist_any (lb : Array Value) (zs : List Int) (B : Nat) (W : World) (hB : B ≤ W.heap.size) (hn : zs.length < 1000000) (hseq : Iter Tryz.prog 58 lb (fun z : Int => #[.int .i64 z]) zs (fun k => k < B) (fun _ => False) W) :
    Calls Tryz.prog 40 #[.func (.func 58) #[] lb] W fun e w' => ∃ v, e = .returned v ∧ w'.ownsRow W.heap.size 3 1 v zs.length (intsV zs) ∧ Below W.heap.size W w' := by
  obtain ⟨i0, hi, hz0, hz1, hz2⟩ := info_parts infoIntS
  have bO := Boxed.new W 32 (.slice none 0 0)
  have hB1 : Below W.heap.size W (W.alloc (.cells #[.slice none 0 0] 32)) := (Below.refl _ W).alloc (Nat.le_refl _) _
  have hI1 := hseq.later hB1
  refine (callsIn_wide (n := 9)).1 ?_
  refine callsIn_of_wp_marks Tryz.func40 rfl trivial ?_ rfl
  simp only [Tryz.ntmps40, List.size_toArray, List.length_cons, List.length_nil, Nat.reduceAdd, Nat.reduceSub, Array.replicate_succ, Array.replicate_zero, List.push_toArray, List.append_toArray, List.nil_append, List.cons_append]
  gi_wp2
  have hs1 : (W.alloc (.cells #[.slice none 0 0] 32)).heap.size = W.heap.size + 1 := World.size_alloc _ _
  clear hseq
  generalize W.alloc (.cells #[.slice none 0 0] 32) = w1 at *
  refine range_outer rfl (enters_of Tryz.func58 (by kernel_rfl) rfl) hI1 (fun _ => rfl) (fun k hk => by omega) (fun _ h => h.elim)
    (fun pre W' => collI W w1 W.heap.size 32 3 1 pre.length (intsV pre) W') (fun _ _ _ => False) (fun _ => collI_stab hB1.size) (fun _ _ => Stab.pure _) ⟨_, bO, World.ownsRow_nil _ _ _ _, hB1, Nat.le_refl _⟩ ?hr ?hd (fun _ _ _ _ _ _ h => h.elim)
  case hr =>
    rintro l pre x suf W2 hx hl hi1 hrec
    gi_wp2
    refine rdThen_mk _ (collI_stab hB1.size) hi1 (Rd.refl _ _ _) ?_
    clear hi1 hrec W2
    rintro W2 ⟨v, hv, hrow, hB2, hs⟩ hrec
    have hc := hv.cell
    have hpl : pre.length < zs.length := by have := congrArg List.length hx; simp at this; omega
    gi_wp2_with (gi_at_builtin; refine wpListIn_append_own _ rfl _ _ 32 rfl w1.heap.size 3 i0 (.int .i64 0) 1 8 Tryz.underlying32 hi hz0 hz1 hz2 rfl (by decide) _ _ _ rfl (hrow.alloc _) ⟨W2.heap.size, 0, none⟩ 1 1 [.int .i64 x] rfl rfl (cell_one_new _ _ _) (by simp [Value.oneCell']) (by unfold maxLen; omega) (by omega) (by simp; omega) ?_; intro v' w2 hown' hgrow _; obtain ⟨g', cap', rfl⟩ := ownsRow_succ hown'; obtain ⟨hv1, hv2, hr2, hk2, hb2⟩ := boxed_appended (n₀ := W.heap.size) (B0 := w1.heap.size) (S := fun k => k < B) hv (by decide) hrow hB1.size hs (Nat.le_refl _) (by show ¬ W.heap.size < B; omega) (fun k hk => by show ¬ k < B; omega) hown' hgrow; have hc1 := hv1.cell; have hf1 := hv1.frozen)
    exact ⟨hk2, _, hv2, by rw [List.length_append, show intsV (pre ++ [x]) = intsV pre ++ [.int .i64 x] by simp [intsV]]; exact hr2, hB2.trans hb2, Nat.le_trans hs hk2.size⟩
  case hd =>
    rintro W2 ⟨v, hv, hrow, hB2, hs⟩ hD
    have hc := hv.cell
    have HR := Lib.hid (own_baseS (own_shutS hrow hD rfl (.deferred none)) (show W.heap.size ≤ w1.heap.size from hB1.size))
    have HB2 := Lib.hid (below_putObj (D := w1.heap.size) hB2 (Nat.le_refl _) hB1.size (.deferred none))
    clear hrow hB2 hv hs
    gi_wp2
    exact leave_one (v := v) hD (results_tmp (t := 2) rfl _ _ _) ⟨v, rfl, HR.out, HB2.out⟩

end Go.Proofs.YtoieacmipejfeaaGreatDoor

/- Package writer: Size, Limit, Segments. -/
namespace Go.Proofs.YtoieacmipejfeaaGreatDoor
open Go.RowKit Go.Shelf
set_option linter.unusedVariables false
attribute [local go_sem] Oper.semAt_some wide_fn wide_round_fn

theorem wsize_any {w W : World} {d p : Nat} {M : WM} {D : PD} (h : WrO w d p M D W) : Gives Tryz.prog 20 #[.pointer (some ⟨p, 0, none⟩)] W (.int .i64 M.size) := by
  obtain ⟨a, cap, hb, -⟩ := h.row
  have c3 := cell_of_row _ _ 3 _ _ _ hb
  clear h hb
  unfold Gives
  go_enter Tryz.func20, Tryz.ntmps20
  go_wp2
  go_ret
  exact ⟨rfl, Below.refl _ _⟩
theorem wlimit_any {w W : World} {d p : Nat} {M : WM} {D : PD} (h : WrO w d p M D W) : Gives Tryz.prog 21 #[.pointer (some ⟨p, 0, none⟩)] W (.int .i64 M.lim) := by
  obtain ⟨a, cap, hb, -⟩ := h.row
  have c1 := cell_of_row _ _ 1 _ _ _ hb
  clear h hb
  unfold Gives
  go_enter Tryz.func21, Tryz.ntmps21
  go_wp2
  go_ret
  exact ⟨rfl, Below.refl _ _⟩
/-- from(0), for a writer. -/
theorem wfrom_any {w W : World} {d p : Nat} {M : WM} {D : PD} (h : WrO w d p M D W) (hn : M.segs.length < 1000000) :
    Calls Tryz.prog 41 #[.pointer (some ⟨p, 0, none⟩), .int .i64 0] W fun e w' => ∃ lb, e = .returned (.func (.func 58) #[] lb) ∧ w'.heap.size = W.heap.size + 2 ∧ Below W.heap.size W w' ∧
      Iter Tryz.prog 58 lb (fun z : Int => #[.int .i64 z]) M.segs (fun k => k < W.heap.size + 2) (fun _ => False) w' := by
  obtain ⟨a, cap, hb, hc, hr⟩ := h.row
  refine (wfrom_makes p W (Array.getElem?_eq_some_iff.1 hb).1 M.segs.length cap a M.segs rfl hc hn (cell_of_row _ _ 2 _ _ _ hb) hr).mono ?_
  rintro e w' ⟨lb, rfl, rfl, hI⟩
  exact ⟨lb, rfl, by rw [World.size_alloc, World.size_alloc], ((Below.refl W.heap.size W).alloc (Nat.le_refl _) _).alloc (by simp) _, hI⟩
set_option maxRecDepth 100000 in
theorem wsegs_any {w W : World} {d p : Nat} {M : WM} {D : PD} (h : WrO w d p M D W) (hn : M.segs.length < 1000000) :
    Calls Tryz.prog 19 #[.pointer (some ⟨p, 0, none⟩)] W fun e w' => ∃ v, e = .returned v ∧ w'.ownsRow W.heap.size 3 1 v M.segs.length (intsV M.segs) ∧ Below W.heap.size W w' := by
  have GF := Lib.hid (wfrom_any h hn)
  clear h
  go_enter Tryz.func19, Tryz.ntmps19
  go_wp2_with (first
    | (go_at_call 41; ((with_reducible refine GF.out.mono ?_); rintro e w1 ⟨lb, rfl, hs1, hB1, hI1⟩; have GL := Lib.hid (wlist_any lb M.segs (W.heap.size + 2) w1 (by omega) hn hI1); have HB1 := Lib.hid hB1; clear hI1 hB1))
    | (go_at_call 40; ((with_reducible refine GL.out.mono ?_); rintro e w2 ⟨v, rfl, hown, hB2⟩; have HO := Lib.hid hown; have HB2 := Lib.hid hB2; clear hown hB2)))
  go_ret
  exact ⟨v, rfl, own_baseS HO.out HB1.out.size, HB1.out.trans (HB2.out.mono HB1.out.size)⟩

end Go.Proofs.YtoieacmipejfeaaGreatDoor

/- Package writer: lay. Printed by gen_wrty.py. -/
namespace Go.Proofs.YtoieacmipejfeaaGreatDoor
open Go.RowKit Go.Shelf
set_option linter.unusedVariables false
attribute [local go_sem] Oper.semAt_some wide_fn wide_round_fn

theorem nmW_size (id : Int) : (nmW id).size ≤ maxLen := by
  have h : (nmW id).size = (nameL (heldN id)).length := rfl
  rw [h, nameL_len]; unfold maxLen; omega
set_option maxRecDepth 100000 in
set_option maxHeartbeats 8000000 in
theorem wlay_any {w W W0 : World} {d p n : Nat} {P : Nat → Prop} {l v z : Value} {D : PD} (hO : OneP w d P W0 D W) (hpp : P p) (h2 : W0.heap[p]? = some (.cells #[.pointer (some ⟨d, 0, none⟩), l, v, z] 75 (0, 0))) (hf : Fit D n) (hn : n ≤ 900000) (id : Int) :
    Calls Tryz.prog 57 #[.pointer (some ⟨p, 0, none⟩), .int .i64 id] W fun e w' => e = .returned (.int .i64 (layR D id).2) ∧ OneP w d P W0 (layR D id).1 w' := by
  have HC := Lib.hid (fun (D' : PD) (w' : World) (h : OneP w d P W0 D' w') => (show w'.cell? ⟨p, 0, none⟩ = some (.pointer (some ⟨d, 0, none⟩)) from cell_of_row _ _ 0 _ _ _ ((h.same hpp).trans h2)))
  have GN := Lib.hid (fun W' => name_any id W')
  have GB := Lib.hid (fun W' => headBytes_any id W')
  have hs := nmW_size id
  have hb : (hdW id).size ≤ 1000000 := by unfold hdW; rw [headS_size]; decide
  have hp := hO.ris
  rw [show (⟨(nameL (heldN id)).toArray⟩ : ByteArray) = nmW id from rfl] at GN
  rw [show headS (heldN id) = hdW id from rfl] at GB
  unfold layR
  obtain ⟨s, hsd⟩ : ∃ s, s = nmW id := ⟨_, rfl⟩
  obtain ⟨b, hbd⟩ : ∃ b, b = hdW id := ⟨_, rfl⟩
  rw [← hsd] at GN hs ⊢
  rw [← hbd] at GB hb ⊢
  clear hsd hbd
  have hf1 : Fit (removeD D s) (n + 1) := hf.remove _
  have hf2 : Fit (createD (removeD D s) s) (n + 2) := hf1.create _
  have G1 := Lib.hid (fun W1 (h1 : OneP w d P W0 D W1) => removeP h1 hf (by omega) s hs)
  have G2 := Lib.hid (fun W1 (h1 : OneP w d P W0 (removeD D s) W1) => createP h1 hf1 (by omega) s hs)
  have G3 := Lib.hid (fun W1 (h1 : OneP w d P W0 (createD (removeD D s) s) W1) => appendP h1 hf2 (by omega) s b hs hb)
  have G4 := Lib.hid (fun W1 (h1 : OneP w d P W0 (appendD (createD (removeD D s) s) s b) W1) (hf3 : Fit (appendD (createD (removeD D s) s) s b) (n + 3)) => syncP h1 hf3 (by omega) s hs)
  have HF2 := Lib.hid hf2
  have HO := Lib.hid hO
  have c0 := HC.out _ _ hO
  clear h2 hpp hf hf1 hf2 hp hO
  dsimp only
  rcases askE_cases D s with e1 | e1 | e1
  · rw [if_pos (show askE D s = 0 ∨ askE D s = 19 by omega), if_pos (show askE D s = 0 ∨ askE D s = 19 by omega)]
    rw [e1] at G1
    clear e1
    by_cases e2 : createE (removeD D s) s = 0
    · rw [if_pos e2, if_pos e2]
      rw [e2] at G2
      clear e2
      by_cases e3 : appendE (createD (removeD D s) s) s b = 0
      · rw [if_pos e3, if_pos e3]
        rw [e3] at G3
        clear e3
        generalize askE (appendD (createD (removeD D s) s) s b) s = e4 at *
        go_enter Tryz.func57, Tryz.ntmps57
        go_wp2_with (first
          | (go_at_call 44; ((with_reducible refine (GN.out _).mono ?_); rintro e w1 ⟨rfl, hB1⟩; have hO0 := HO.out.below hB1; have k0 := HC.out _ _ hO0))
          | (go_at_call 43; ((with_reducible refine (G1.out _ hO0).mono ?_); rintro e w2 ⟨rfl, hO1⟩; have k1 := HC.out _ _ hO1))
          | (go_at_call 29; ((with_reducible refine (G2.out _ hO1).mono ?_); rintro e w3 ⟨rfl, hO2⟩; have k2 := HC.out _ _ hO2; have k2d : w3.drew.cell? ⟨p, 0, none⟩ = some (.pointer (some ⟨d, 0, none⟩)) := k2; have HF3 := Lib.hid (show Fit (appendD (createD (removeD D s) s) s b) (n + 3) from HF2.out.append (ris_names hO2.ris) s b))))
        go_region_with (first
          | (go_at_call 69; ((with_reducible refine (GB.out _).mono ?_); rintro e w4 ⟨rfl, hB4⟩; have hO3 := hO2.below ((Below.refl w3.heap.size w3).drew.trans hB4); have k3 := HC.out _ _ hO3))
          | (go_at_call 30; ((with_reducible refine (G3.out _ hO3).mono ?_); rintro e w5 ⟨rfl, hO4⟩; have k4 := HC.out _ _ hO4)))
        all_goals
          go_wp2_with (first
            | (go_at_call 39; ((with_reducible refine (G4.out _ hO4 HF3.out).mono ?_); rintro e w6 ⟨rfl, hO5⟩)))
          go_ret
          exact ⟨rfl, hO5⟩
      · rw [if_neg e3, if_neg e3]
        generalize appendE (createD (removeD D s) s) s b = e4 at *
        clear G4
        go_enter Tryz.func57, Tryz.ntmps57
        go_wp2_with (first
          | (go_at_call 44; ((with_reducible refine (GN.out _).mono ?_); rintro e w1 ⟨rfl, hB1⟩; have hO0 := HO.out.below hB1; have k0 := HC.out _ _ hO0))
          | (go_at_call 43; ((with_reducible refine (G1.out _ hO0).mono ?_); rintro e w2 ⟨rfl, hO1⟩; have k1 := HC.out _ _ hO1))
          | (go_at_call 29; ((with_reducible refine (G2.out _ hO1).mono ?_); rintro e w3 ⟨rfl, hO2⟩; have k2 := HC.out _ _ hO2; have k2d : w3.drew.cell? ⟨p, 0, none⟩ = some (.pointer (some ⟨d, 0, none⟩)) := k2; have HF3 := Lib.hid (show Fit (appendD (createD (removeD D s) s) s b) (n + 3) from HF2.out.append (ris_names hO2.ris) s b))))
        go_region_with (first
          | (go_at_call 69; ((with_reducible refine (GB.out _).mono ?_); rintro e w4 ⟨rfl, hB4⟩; have hO3 := hO2.below ((Below.refl w3.heap.size w3).drew.trans hB4); have k3 := HC.out _ _ hO3))
          | (go_at_call 30; ((with_reducible refine (G3.out _ hO3).mono ?_); rintro e w5 ⟨rfl, hO4⟩; have k4 := HC.out _ _ hO4)))
        all_goals
          go_wp2
          go_ret
          exact ⟨rfl, hO4⟩
    · rw [if_neg e2, if_neg e2]
      rw [if_neg e2, if_neg e2]
      generalize createE (removeD D s) s = e4 at *
      clear G3 G4
      go_enter Tryz.func57, Tryz.ntmps57
      go_wp2_with (first
        | (go_at_call 44; ((with_reducible refine (GN.out _).mono ?_); rintro e w1 ⟨rfl, hB1⟩; have hO0 := HO.out.below hB1; have k0 := HC.out _ _ hO0))
        | (go_at_call 43; ((with_reducible refine (G1.out _ hO0).mono ?_); rintro e w2 ⟨rfl, hO1⟩; have k1 := HC.out _ _ hO1))
        | (go_at_call 29; ((with_reducible refine (G2.out _ hO1).mono ?_); rintro e w3 ⟨rfl, hO2⟩; have k2 := HC.out _ _ hO2; have k2d : w3.drew.cell? ⟨p, 0, none⟩ = some (.pointer (some ⟨d, 0, none⟩)) := k2; have HF3 := Lib.hid (show Fit (appendD (createD (removeD D s) s) s b) (n + 3) from HF2.out.append (ris_names hO2.ris) s b))))
      go_ret
      exact ⟨rfl, hO2⟩
  · rw [if_neg (show ¬ (askE D s = 0 ∨ askE D s = 19) by omega), if_neg (show ¬ (askE D s = 0 ∨ askE D s = 19) by omega)]
    rw [e1] at G1 ⊢
    simp only [if_neg (show ¬ (18 : Int) = 0 by decide)]
    clear G2 G3 G4 e1
    go_enter Tryz.func57, Tryz.ntmps57
    go_wp2_with (first
      | (go_at_call 44; ((with_reducible refine (GN.out _).mono ?_); rintro e w1 ⟨rfl, hB1⟩; have hO0 := HO.out.below hB1; have k0 := HC.out _ _ hO0))
      | (go_at_call 43; ((with_reducible refine (G1.out _ hO0).mono ?_); rintro e w2 ⟨rfl, hO1⟩; have k1 := HC.out _ _ hO1)))
    go_ret
    exact ⟨rfl, hO1⟩
  · rw [if_pos (show askE D s = 0 ∨ askE D s = 19 by omega), if_pos (show askE D s = 0 ∨ askE D s = 19 by omega)]
    rw [e1] at G1
    clear e1
    by_cases e2 : createE (removeD D s) s = 0
    · rw [if_pos e2, if_pos e2]
      rw [e2] at G2
      clear e2
      by_cases e3 : appendE (createD (removeD D s) s) s b = 0
      · rw [if_pos e3, if_pos e3]
        rw [e3] at G3
        clear e3
        generalize askE (appendD (createD (removeD D s) s) s b) s = e4 at *
        go_enter Tryz.func57, Tryz.ntmps57
        go_wp2_with (first
          | (go_at_call 44; ((with_reducible refine (GN.out _).mono ?_); rintro e w1 ⟨rfl, hB1⟩; have hO0 := HO.out.below hB1; have k0 := HC.out _ _ hO0))
          | (go_at_call 43; ((with_reducible refine (G1.out _ hO0).mono ?_); rintro e w2 ⟨rfl, hO1⟩; have k1 := HC.out _ _ hO1))
          | (go_at_call 29; ((with_reducible refine (G2.out _ hO1).mono ?_); rintro e w3 ⟨rfl, hO2⟩; have k2 := HC.out _ _ hO2; have k2d : w3.drew.cell? ⟨p, 0, none⟩ = some (.pointer (some ⟨d, 0, none⟩)) := k2; have HF3 := Lib.hid (show Fit (appendD (createD (removeD D s) s) s b) (n + 3) from HF2.out.append (ris_names hO2.ris) s b))))
        go_region_with (first
          | (go_at_call 69; ((with_reducible refine (GB.out _).mono ?_); rintro e w4 ⟨rfl, hB4⟩; have hO3 := hO2.below ((Below.refl w3.heap.size w3).drew.trans hB4); have k3 := HC.out _ _ hO3))
          | (go_at_call 30; ((with_reducible refine (G3.out _ hO3).mono ?_); rintro e w5 ⟨rfl, hO4⟩; have k4 := HC.out _ _ hO4)))
        all_goals
          go_wp2_with (first
            | (go_at_call 39; ((with_reducible refine (G4.out _ hO4 HF3.out).mono ?_); rintro e w6 ⟨rfl, hO5⟩)))
          go_ret
          exact ⟨rfl, hO5⟩
      · rw [if_neg e3, if_neg e3]
        generalize appendE (createD (removeD D s) s) s b = e4 at *
        clear G4
        go_enter Tryz.func57, Tryz.ntmps57
        go_wp2_with (first
          | (go_at_call 44; ((with_reducible refine (GN.out _).mono ?_); rintro e w1 ⟨rfl, hB1⟩; have hO0 := HO.out.below hB1; have k0 := HC.out _ _ hO0))
          | (go_at_call 43; ((with_reducible refine (G1.out _ hO0).mono ?_); rintro e w2 ⟨rfl, hO1⟩; have k1 := HC.out _ _ hO1))
          | (go_at_call 29; ((with_reducible refine (G2.out _ hO1).mono ?_); rintro e w3 ⟨rfl, hO2⟩; have k2 := HC.out _ _ hO2; have k2d : w3.drew.cell? ⟨p, 0, none⟩ = some (.pointer (some ⟨d, 0, none⟩)) := k2; have HF3 := Lib.hid (show Fit (appendD (createD (removeD D s) s) s b) (n + 3) from HF2.out.append (ris_names hO2.ris) s b))))
        go_region_with (first
          | (go_at_call 69; ((with_reducible refine (GB.out _).mono ?_); rintro e w4 ⟨rfl, hB4⟩; have hO3 := hO2.below ((Below.refl w3.heap.size w3).drew.trans hB4); have k3 := HC.out _ _ hO3))
          | (go_at_call 30; ((with_reducible refine (G3.out _ hO3).mono ?_); rintro e w5 ⟨rfl, hO4⟩; have k4 := HC.out _ _ hO4)))
        all_goals
          go_wp2
          go_ret
          exact ⟨rfl, hO4⟩
    · rw [if_neg e2, if_neg e2]
      rw [if_neg e2, if_neg e2]
      generalize createE (removeD D s) s = e4 at *
      clear G3 G4
      go_enter Tryz.func57, Tryz.ntmps57
      go_wp2_with (first
        | (go_at_call 44; ((with_reducible refine (GN.out _).mono ?_); rintro e w1 ⟨rfl, hB1⟩; have hO0 := HO.out.below hB1; have k0 := HC.out _ _ hO0))
        | (go_at_call 43; ((with_reducible refine (G1.out _ hO0).mono ?_); rintro e w2 ⟨rfl, hO1⟩; have k1 := HC.out _ _ hO1))
        | (go_at_call 29; ((with_reducible refine (G2.out _ hO1).mono ?_); rintro e w3 ⟨rfl, hO2⟩; have k2 := HC.out _ _ hO2; have k2d : w3.drew.cell? ⟨p, 0, none⟩ = some (.pointer (some ⟨d, 0, none⟩)) := k2; have HF3 := Lib.hid (show Fit (appendD (createD (removeD D s) s) s b) (n + 3) from HF2.out.append (ris_names hO2.ris) s b))))
      go_ret
      exact ⟨rfl, hO2⟩

end Go.Proofs.YtoieacmipejfeaaGreatDoor

/- Package writer: a writer in memory beside its disk, and blocks X that stay as in W0. -/
namespace Go.Proofs.YtoieacmipejfeaaGreatDoor
open Go.RowKit Go.Shelf
set_option linter.unusedVariables false

def WrX (w : World) (d p : Nat) (X : Nat → Prop) (W0 : World) (M : WM) (D : PD) (W : World) : Prop :=
  ∃ v, OneP w d (fun k => wrP p v k ∨ X k) W D W ∧ W.heap[p]? = some (.cells #[.pointer (some ⟨d, 0, none⟩), .int .i64 M.lim, v, .int .i64 M.size] 75 (0, 0)) ∧ W.ownsRow w.heap.size 3 1 v M.segs.length (M.segs.map fun z => .int .i64 z) ∧ (w.heap.size ≤ p ∧ some p ≠ v.ownBlock) ∧ ∀ k, X k → k ≠ p ∧ some k ≠ v.ownBlock ∧ W.heap[k]? = W0.heap[k]?
theorem WrX.toO {w W W0 : World} {d p : Nat} {X : Nat → Prop} {M : WM} {D : PD} (h : WrX w d p X W0 M D W) : WrO w d p M D W := by
  obtain ⟨v, ⟨T, a1, a2, a3, a4⟩, h2, h3, h4, h5⟩ := h
  exact ⟨v, ⟨T, a1, a2, fun k hk => a3 k (.inl hk), fun _ _ => rfl⟩, h2, h3, h4⟩
theorem WrO.toX {w W : World} {d p : Nat} {M : WM} {D : PD} (h : WrO w d p M D W) (W0 : World) : WrX w d p (fun _ => False) W0 M D W := by
  obtain ⟨v, ⟨T, a1, a2, a3, a4⟩, h2, h3, h4⟩ := h
  exact ⟨v, ⟨T, a1, a2, fun k hk => a3 k (hk.elim id False.elim), fun _ _ => rfl⟩, h2, h3, h4, fun k hk => hk.elim⟩
theorem WrO.one {w W : World} {d p : Nat} {M : WM} {D : PD} (h : WrO w d p M D W) : One w d D W := h.choose_spec.1.one
theorem WrX.lt {w W W0 : World} {d p : Nat} {X : Nat → Prop} {M : WM} {D : PD} (h : WrX w d p X W0 M D W) {k : Nat} (hk : X k) : k < W.heap.size := by
  obtain ⟨v, ⟨T, a1, a2, a3, a4⟩, -⟩ := h
  exact (a3 k (.inr hk)).2
theorem WrX.same {w W W0 : World} {d p : Nat} {X : Nat → Prop} {M : WM} {D : PD} (h : WrX w d p X W0 M D W) {k : Nat} (hk : X k) : W.heap[k]? = W0.heap[k]? := by
  obtain ⟨v, -, -, -, -, h5⟩ := h
  exact (h5 k hk).2.2
theorem WrX.below {w W W' W0 : World} {d p : Nat} {X : Nat → Prop} {M : WM} {D : PD} (h : WrX w d p X W0 M D W) (hB : Below W.heap.size W W') : WrX w d p X W0 M D W' := by
  have hl := fun k (hk : X k) => h.lt hk
  obtain ⟨v, h1, h2, h3, h4, h5⟩ := h
  obtain ⟨T, a1, a2, a3, a4⟩ := h1.below hB
  exact ⟨v, ⟨T, a1, a2, a3, fun k hk => rfl⟩, (hB.block _ (Array.getElem?_eq_some_iff.1 h2).1).trans h2, ownsRow_below (n := 0) h3 hB, h4, fun k hk => ⟨(h5 k hk).1, (h5 k hk).2.1, (hB.block k (hl k hk)).trans (h5 k hk).2.2⟩⟩
theorem WrX.disk {w W W' W0 : World} {d p : Nat} {X : Nat → Prop} {v : Value} {M : WM} {D' : PD} (h2 : W.heap[p]? = some (.cells #[.pointer (some ⟨d, 0, none⟩), .int .i64 M.lim, v, .int .i64 M.size] 75 (0, 0))) (h3 : W.ownsRow w.heap.size 3 1 v M.segs.length (M.segs.map fun z => .int .i64 z)) (h4 : w.heap.size ≤ p ∧ some p ≠ v.ownBlock) (h5 : ∀ k, X k → k ≠ p ∧ some k ≠ v.ownBlock ∧ W.heap[k]? = W0.heap[k]?) (h : OneP w d (fun k => wrP p v k ∨ X k) W D' W') : WrX w d p X W0 M D' W' := by
  obtain ⟨T, a1, a2, a3, a4⟩ := h
  exact ⟨v, ⟨T, a1, a2, a3, fun k hk => rfl⟩, (a4 p (.inl (.inl rfl))).trans h2, own_keep h3 (fun k hk => a4 k (.inl (.inr hk))), h4, fun k hk => ⟨(h5 k hk).1, (h5 k hk).2.1, (a4 k (.inr hk)).trans (h5 k hk).2.2⟩⟩
/-- One block more is kept. -/
theorem WrX.more {w W W' W0 : World} {d p q : Nat} {X : Nat → Prop} {M : WM} {D : PD} (h : WrX w d p X W0 M D W) (hB : Below W.heap.size W W') (hq : W.heap.size ≤ q ∧ q < W'.heap.size) : WrX w d p (fun k => X k ∨ k = q) W' M D W' := by
  obtain ⟨v, h1, h2, h3, h4, h5⟩ := h
  have hpl := (Array.getElem?_eq_some_iff.1 h2).1
  obtain ⟨T, a1, a2, a3, a4⟩ := h1
  refine ⟨v, ⟨T, a1.below hB, bel2 a2 hB, ?_, fun k hk => rfl⟩, (hB.block _ hpl).trans h2, ownsRow_below (n := 0) h3 hB, h4, ?_⟩
  · rintro k (hk | hk | hk)
    · exact ⟨(a3 k (.inl hk)).1, Nat.lt_of_lt_of_le (a3 k (.inl hk)).2 hB.size⟩
    · exact ⟨(a3 k (.inr hk)).1, Nat.lt_of_lt_of_le (a3 k (.inr hk)).2 hB.size⟩
    · rw [hk]; exact ⟨fun hT => by have := a1.lt hT; omega, hq.2⟩
  · rintro k (hk | hk)
    · exact ⟨(h5 k hk).1, (h5 k hk).2.1, rfl⟩
    · rw [hk]
      refine ⟨by omega, fun e => ?_, rfl⟩
      have := (a3 q (.inl (.inr e))).2
      omega
theorem WrX.less {w W W0 W1 : World} {d p : Nat} {X Y : Nat → Prop} {M : WM} {D : PD} (h : WrX w d p X W1 M D W) (hXY : ∀ k, Y k → X k) (h0 : ∀ k, Y k → W1.heap[k]? = W0.heap[k]?) : WrX w d p Y W0 M D W := by
  obtain ⟨v, ⟨T, a1, a2, a3, a4⟩, h2, h3, h4, h5⟩ := h
  exact ⟨v, ⟨T, a1, a2, fun k hk => a3 k (hk.imp id (hXY k)), fun _ _ => rfl⟩, h2, h3, h4, fun k hk => ⟨(h5 k (hXY k hk)).1, (h5 k (hXY k hk)).2.1, (h5 k (hXY k hk)).2.2.trans (h0 k hk)⟩⟩
theorem WrO.ris {w W : World} {d p : Nat} {M : WM} {D : PD} (h : WrO w d p M D W) : risN D.L := h.choose_spec.1.ris

end Go.Proofs.YtoieacmipejfeaaGreatDoor

/- Disks as plain data: what is looked up behind each operation. -/
namespace Go.Proofs.YtoieacmipejfeaaGreatDoor
open Go.RowKit Go.Shelf
set_option linter.unusedVariables false

def Nm (L : List PF) : Prop := L.Pairwise fun f g => f.n ≠ g.n
theorem nm_del {L : List PF} (h : Nm L) (s : ByteArray) : Nm (delK PF.n L s) := List.Pairwise.sublist List.filter_sublist h
theorem nm_put {L : List PF} (h : Nm L) (x : PF) : Nm (putK PF.n x L) := by
  unfold putK Nm
  rw [List.Perm.pairwise_iff (fun h => Ne.symm h) (insK_perm _ _ _)]
  exact List.pairwise_cons.2 ⟨fun y hy => Ne.symm (mem_delK.1 hy).2, nm_del h _⟩
theorem nm_turn {g : PF → PF} (hg : ∀ x, (g x).n = x.n) {L : List PF} (h : Nm L) (s : ByteArray) : Nm (turnL g L s) := by
  unfold turnL Nm
  rw [List.pairwise_map]
  refine h.imp ?_
  intro a b hab
  have e : ∀ x : PF, (if x.n = s then g x else x).n = x.n := fun x => by split <;> simp [hg]
  rw [e, e]; exact hab
theorem getK_cons (x : PF) (L : List PF) (s : ByteArray) : getK PF.n (x :: L) s = if x.n = s then some x else getK PF.n L s := by
  unfold getK
  rw [List.find?_cons]
  by_cases h : x.n = s
  · simp [h]
  · simp [h]
theorem getK_ins (x : PF) (s : ByteArray) : ∀ {L : List PF}, (∀ y ∈ L, y.n ≠ x.n) → getK PF.n (insK PF.n x L) s = if s = x.n then some x else getK PF.n L s
  | [], _ => by
    show getK PF.n [x] s = _
    rw [getK_cons]
    by_cases h : x.n = s
    · rw [if_pos h, if_pos h.symm]
    · rw [if_neg h, if_neg (fun e => h e.symm)]
  | y :: r, hx => by
    unfold insK
    split
    · rw [getK_cons]
      by_cases h : x.n = s
      · rw [if_pos h, if_pos h.symm]
      · rw [if_neg h, if_neg (fun e => h e.symm)]
    · rw [getK_cons, getK_ins x s (fun z hz => hx z (List.mem_cons_of_mem _ hz)), getK_cons]
      by_cases h : y.n = s
      · rw [if_pos h, if_pos h, if_neg (fun e => hx y (List.mem_cons_self ..) (h.trans e))]
      · rw [if_neg h, if_neg h]
theorem getK_del (t s : ByteArray) : ∀ L : List PF, getK PF.n (delK PF.n L t) s = if s = t then none else getK PF.n L s
  | [] => by show none = _; split <;> rfl
  | y :: r => by
    have ih := getK_del t s r
    unfold delK at ih ⊢
    rw [List.filter_cons, getK_cons]
    by_cases h : y.n = t
    · rw [if_neg (by simp [h]), ih]
      by_cases h2 : s = t
      · rw [if_pos h2, if_pos h2]
      · rw [if_neg h2, if_neg h2, if_neg (fun e => h2 (e.symm.trans h))]
    · rw [if_pos (by simp [h]), getK_cons, ih]
      by_cases h2 : s = t
      · rw [if_pos h2, if_pos h2, if_neg (fun e => h (e.trans h2))]
      · rw [if_neg h2, if_neg h2]
theorem getK_put (x : PF) (s : ByteArray) (L : List PF) : getK PF.n (putK PF.n x L) s = if s = x.n then some x else getK PF.n L s := by
  unfold putK
  rw [getK_ins x s (fun y hy => (mem_delK.1 hy).2), getK_del]
  by_cases h : s = x.n
  · rw [if_pos h, if_pos h]
  · rw [if_neg h, if_neg h, if_neg h]
theorem getK_turn {g : PF → PF} (hg : ∀ x, (g x).n = x.n) (t s : ByteArray) : ∀ L : List PF, getK PF.n (turnL g L t) s = if s = t then (getK PF.n L s).map g else getK PF.n L s
  | [] => by show none = _; split <;> rfl
  | y :: r => by
    have ih := getK_turn hg t s r
    unfold turnL at ih ⊢
    rw [List.map_cons, getK_cons, getK_cons, ih]
    by_cases h : y.n = t
    · rw [if_pos h]
      by_cases h2 : s = t
      · rw [if_pos h2, if_pos h2, if_pos ((hg y).trans (h.trans h2.symm)), if_pos (h.trans h2.symm)]; rfl
      · rw [if_neg h2, if_neg h2, if_neg (fun e => h2 (((hg y).symm.trans e).symm.trans h)), if_neg (fun e => h2 (e.symm.trans h))]
    · rw [if_neg h]
      by_cases h2 : s = t
      · rw [if_pos h2, if_pos h2, if_neg (fun e => h (e.trans h2)), if_neg (fun e => h (e.trans h2))]
      · rw [if_neg h2, if_neg h2]
def upd (g : ByteArray → Option PF) (s : ByteArray) (f : Option PF) : ByteArray → Option PF := fun t => if t = s then f else g t
theorem upd_self (g : ByteArray → Option PF) (s : ByteArray) (f : Option PF) : upd g s f s = f := if_pos rfl
theorem upd_other {g : ByteArray → Option PF} {s t : ByteArray} (f : Option PF) (h : t ≠ s) : upd g s f t = g t := if_neg h
theorem upd_upd (g : ByteArray → Option PF) (s : ByteArray) (f e : Option PF) : upd (upd g s f) s e = upd g s e := by
  funext t; unfold upd; split <;> rfl
theorem upd_comm (g : ByteArray → Option PF) {s t : ByteArray} (f e : Option PF) (h : s ≠ t) : upd (upd g s f) t e = upd (upd g t e) s f := by
  funext x; unfold upd; split
  · rename_i h1; rw [if_neg (fun e => h (e.symm.trans h1))]
  · rfl
theorem upd_same {g : ByteArray → Option PF} {s : ByteArray} {f : Option PF} (h : g s = f) : upd g s f = g := by
  funext t; unfold upd; split
  · rename_i h1; rw [h1, h]
  · rfl
/-- What a disk is, by what is looked up: room r, at most u bytes, at most k files; no limit of steps. -/
structure St (D : PD) (r u k : Nat) (g : ByteArray → Option PF) : Prop where
  lim : D.lim = false
  room : D.room = r
  used : usedL D.L ≤ u
  fits : usedL D.L ≤ r
  len : D.L.length ≤ k
  nm : Nm D.L
  get : ∀ s, getK PF.n D.L s = g s
theorem St.up {D : PD} {r u k u' k' : Nat} {g : ByteArray → Option PF} (h : St D r u k g) (hu : u ≤ u') (hk : k ≤ k') : St D r u' k' g := ⟨h.lim, h.room, Nat.le_trans h.used hu, h.fits, Nat.le_trans h.len hk, h.nm, h.get⟩
theorem St.off {D : PD} {r u k : Nat} {g : ByteArray → Option PF} (h : St D r u k g) : offB D = false := by unfold offB; rw [h.lim]; rfl
theorem St.ask {D : PD} {r u k : Nat} {g : ByteArray → Option PF} (h : St D r u k g) (s : ByteArray) : askE D s = if (g s).isSome then 0 else 19 := by
  unfold askE; rw [h.off, h.get]; rfl
theorem St.askY {D : PD} {r u k : Nat} {g : ByteArray → Option PF} (h : St D r u k g) {s : ByteArray} {f : PF} (hs : g s = some f) : askE D s = 0 := by rw [h.ask, hs]; rfl
theorem St.askN {D : PD} {r u k : Nat} {g : ByteArray → Option PF} (h : St D r u k g) {s : ByteArray} (hs : g s = none) : askE D s = 19 := by rw [h.ask, hs]; rfl
theorem St.read {D : PD} {r u k : Nat} {g : ByteArray → Option PF} (h : St D r u k g) {s : ByteArray} {f : PF} (hs : g s = some f) : readB D s = ⟨f.b.toArray⟩ := by
  unfold readB; rw [if_pos (h.askY hs), h.get, hs]
theorem St.create {D : PD} {r u k : Nat} {g : ByteArray → Option PF} (h : St D r u k g) {s : ByteArray} (hs : g s = none) (hk : k < 1000) : createE D s = 0 ∧ St (createD D s) r u (k + 1) (upd g s (some ⟨s, [], 0⟩)) := by
  have e : createE D s = 0 := by
    unfold createE; rw [h.off, h.get, hs]
    have := h.len
    rw [if_neg (by decide), if_neg (by simp), if_neg (by omega)]
  refine ⟨e, ?_⟩
  unfold createD
  rw [if_pos e]
  have hu := used_put ⟨s, [], 0⟩ D.L
  have hl := put_len PF.n ⟨s, [], 0⟩ D.L
  have h1 := h.used
  have h0 := h.fits
  have h2 := h.len
  exact ⟨h.lim, h.room, by show usedL (putK PF.n _ D.L) ≤ u; simp at hu; omega, by show usedL (putK PF.n _ D.L) ≤ r; simp at hu; omega, by show (putK PF.n _ D.L).length ≤ _; omega, nm_put h.nm _, fun t => by
    show getK PF.n (putK PF.n _ D.L) t = _
    rw [getK_put, h.get]; rfl⟩
theorem St.append {D : PD} {r u k : Nat} {g : ByteArray → Option PF} (h : St D r u k g) {s : ByteArray} {f : PF} (hs : g s = some f) (b : ByteArray) :
    (appendE D s b = 0 ∧ St (appendD D s b) r (u + b.size) k (upd g s (some (appP b f)))) ∨ (appendE D s b = 17 ∧ appendD D s b = D ∧ r < u + b.size) := by
  have ha := h.askY hs
  by_cases hr : D.room < usedL D.L + b.size
  · have e : appendE D s b = 17 := by unfold appendE; rw [if_neg (by rw [ha]; simp), if_pos hr]
    refine .inr ⟨e, ?_, by have := h.used; have := h.room; omega⟩
    unfold appendD; rw [if_neg (by rw [e]; decide)]
  · have e : appendE D s b = 0 := by unfold appendE; rw [if_neg (by rw [ha]; simp), if_neg hr]
    refine .inl ⟨e, ?_⟩
    unfold appendD; rw [if_pos e]
    have hu := used_app h.nm s b
    have h1 := h.used
    have h9 := h.room
    have h0 := h.fits
    exact ⟨h.lim, h.room, by show usedL (turnL _ D.L s) ≤ _; omega, by show usedL (turnL _ D.L s) ≤ _; omega, by show (turnL _ D.L s).length ≤ _; rw [turn_len]; exact h.len, nm_turn (g := appP b) (fun _ => rfl) h.nm s, fun t => by
      show getK PF.n (turnL _ D.L s) t = _
      rw [getK_turn (g := appP b) (fun _ => rfl), h.get]
      unfold upd
      split
      · rename_i e1; rw [e1, hs]; rfl
      · rfl⟩
theorem St.sync {D : PD} {r u k : Nat} {g : ByteArray → Option PF} (h : St D r u k g) {s : ByteArray} {f : PF} (hs : g s = some f) : St (syncD D s) r u k (upd g s (some (keepP f))) := by
  unfold syncD; rw [if_pos (h.askY hs)]
  have hu := used_turn (g := keepP) (fun x => Nat.le_refl _) D.L s
  have h1 := h.used
  have h0 := h.fits
  exact ⟨h.lim, h.room, by show usedL (turnL _ D.L s) ≤ _; omega, by show usedL (turnL _ D.L s) ≤ _; omega, by show (turnL _ D.L s).length ≤ _; rw [turn_len]; exact h.len, nm_turn (g := keepP) (fun _ => rfl) h.nm s, fun t => by
    show getK PF.n (turnL _ D.L s) t = _
    rw [getK_turn (g := keepP) (fun _ => rfl), h.get]
    unfold upd
    split
    · rename_i e1; rw [e1, hs]; rfl
    · rfl⟩
theorem St.remove {D : PD} {r u k : Nat} {g : ByteArray → Option PF} (h : St D r u k g) (s : ByteArray) : St (removeD D s) r u k (upd g s none) ∧ (askE D s = 0 ∨ askE D s = 19) := by
  have h1 := h.used
  have h0 := h.fits
  have h2 := h.len
  cases hs : g s with
  | none =>
    refine ⟨?_, .inr (h.askN hs)⟩
    unfold removeD; rw [if_neg (by rw [h.askN hs]; decide), upd_same hs]; exact h
  | some f =>
    refine ⟨?_, .inl (h.askY hs)⟩
    unfold removeD; rw [if_pos (h.askY hs)]
    have hu := used_del D.L s
    have hl := del_len PF.n D.L s
    exact ⟨h.lim, h.room, by show usedL (delK _ D.L s) ≤ _; omega, by show usedL (delK _ D.L s) ≤ _; omega, by show (delK _ D.L s).length ≤ _; omega, nm_del h.nm s, fun t => by
      show getK PF.n (delK _ D.L s) t = _
      rw [getK_del, h.get]; rfl⟩
theorem St.rename {D : PD} {r u k : Nat} {g : ByteArray → Option PF} (h : St D r u k g) {s : ByteArray} {f : PF} (hs : g s = some f) (t : ByteArray) : St (renameD D s t) r u k (upd (upd g s none) t (some ⟨t, f.b, f.b.length⟩)) := by
  unfold renameD; rw [if_pos (h.askY hs)]
  have hgk : getK PF.n D.L s = some f := (h.get s).trans hs
  have hr : renF D s t = { D with L := putK PF.n (namedP f t f.b.length) (delK PF.n D.L s) } := by unfold renF; rw [hgk]
  rw [hr]
  have hd := used_del_get hgk
  have hu := used_put (namedP f t f.b.length) (delK PF.n D.L s)
  have hl := put_len PF.n (namedP f t f.b.length) (delK PF.n D.L s)
  have h1 := h.used
  have h0 := h.fits
  have h2 := h.len
  exact ⟨h.lim, h.room, by show usedL (putK _ _ (delK _ D.L s)) ≤ _; have : (namedP f t f.b.length).b.length = f.b.length := rfl; omega, by show usedL (putK _ _ (delK _ D.L s)) ≤ _; have : (namedP f t f.b.length).b.length = f.b.length := rfl; omega, by show (putK _ _ (delK _ D.L s)).length ≤ _; omega, nm_put (nm_del h.nm s) _, fun x => by
    show getK PF.n (putK _ _ (delK _ D.L s)) x = _
    rw [getK_put, getK_del, h.get]; rfl⟩

end Go.Proofs.YtoieacmipejfeaaGreatDoor

/- Package writer: begin. Printed by gen_wrtb.py. -/
namespace Go.Proofs.YtoieacmipejfeaaGreatDoor
open Go.RowKit Go.Shelf
set_option linter.unusedVariables false
attribute [local go_sem] Oper.semAt_some wide_fn wide_round_fn

theorem nm_createD {D : PD} (h : Nm D.L) (s : ByteArray) : Nm (createD D s).L := by
  unfold createD; split
  · exact nm_put h _
  · exact h
theorem nm_removeD {D : PD} (h : Nm D.L) (s : ByteArray) : Nm (removeD D s).L := by
  unfold removeD; split
  · exact nm_del h _
  · exact h
theorem fit_lay {D : PD} {n : Nat} (hf : Fit D n) (hm : Nm D.L) (id : Int) : Fit (layR D id).1 (n + 4) := by
  unfold layR
  generalize nmW id = s
  generalize hdW id = b
  dsimp only
  have f1 : Fit (removeD D s) (n + 1) := hf.remove s
  have m1 : Nm (removeD D s).L := nm_removeD hm s
  have m2 : Nm (if askE D s = 0 ∨ askE D s = 19 then createD (removeD D s) s else removeD D s).L := by split; exact nm_createD m1 s; exact m1
  have f2 : Fit (if askE D s = 0 ∨ askE D s = 19 then createD (removeD D s) s else removeD D s) (n + 2) := by split; exact f1.create s; exact f1.up (by omega)
  generalize (if askE D s = 0 ∨ askE D s = 19 then createD (removeD D s) s else removeD D s) = D2 at *
  generalize (if askE D s = 0 ∨ askE D s = 19 then createE (removeD D s) s else askE D s) = e2 at *
  have f3 : Fit (if e2 = 0 then appendD D2 s b else D2) (n + 3) := by split; exact f2.append m2 s b; exact f2.up (by omega)
  generalize (if e2 = 0 then appendD D2 s b else D2) = D3 at *
  generalize (if e2 = 0 then appendE D2 s b else e2) = e3 at *
  split
  · exact f3.sync s
  · exact f3.up (by omega)
theorem fit_saB {D : PD} {n : Nat} (hf : Fit D n) (hm : Nm D.L) (b : ByteArray) : Fit (saB D b).1 (n + 5) := by
  have f1 : Fit (sa1 D) (n + 1) := hf.remove _
  have m1 : Nm (sa1 D).L := nm_removeD hm _
  have f2 : Fit (sa2 D) (n + 2) := f1.create _
  have m2 : Nm (sa2 D).L := nm_createD m1 _
  have f3 : Fit (sa3 D b) (n + 3) := f2.append m2 _ b
  have f4 : Fit (sa4 D b) (n + 4) := f3.sync _
  have f5 : Fit (sa5 D b) (n + 5) := f4.rename _ _
  unfold saB
  split
  · exact hf.up (by omega)
  · split
    · exact f2.up (by omega)
    · split
      · exact f3.up (by omega)
      · split
        · exact f4.up (by omega)
        · exact f5
theorem fit_saR {D : PD} {n : Nat} (hf : Fit D n) (hm : Nm D.L) (l : List Int) : Fit (saR D l).1 (n + 5) := by
  unfold saR; split
  · exact fit_saB hf hm _
  · exact hf.up (by omega)
theorem wr_set {w W W0 W1 : World} {d p : Nat} {P X : Nat → Prop} {D : PD} {l z0 v v' : Value} {n : Nat} {lim : Int} {zs : List Int} (h : OneP w d P W0 D W) (hp : P p) (h2 : W.heap[p]? = some (.cells #[.pointer (some ⟨d, 0, none⟩), .int .i64 lim, v, z0] 75 (0, 0))) (hwp : w.heap.size ≤ p) (hown : W.ownsRow w.heap.size 3 1 v' zs.length (intsV zs)) (hP : ∀ k, some k = v'.ownBlock → P k ∧ k ≠ p) (hX : ∀ k, X k → P k ∧ k ≠ p ∧ some k ≠ v'.ownBlock ∧ W.heap[k]? = W1.heap[k]?) (z : Int) :
    WrX w d p X W1 ⟨lim, zs, z⟩ D ((W.setCell ⟨p, 2, none⟩ v').setCell ⟨p, 3, none⟩ (.int .i64 z)) := by
  obtain ⟨T, a1, a2, a3, a4⟩ := h
  have hF : FrameT (fun k => k = p) W ((W.setCell ⟨p, 2, none⟩ v').setCell ⟨p, 3, none⟩ (.int .i64 z)) := (FrameT.setCell W p 2 v').trans (FrameT.setCell _ p 3 (.int .i64 z))
  have hg : ((W.setCell ⟨p, 2, none⟩ v').setCell ⟨p, 3, none⟩ (.int .i64 z)).heap[p]? = some (.cells #[.pointer (some ⟨d, 0, none⟩), .int .i64 lim, v', .int .i64 z] 75 (0, 0)) := by
    rw [heap_setCell_same _ _ _ _ _ _ (heap_setCell_same _ _ _ _ _ _ h2)]; rfl
  refine ⟨v', ⟨T, a1.frame hF (fun k hk e => (a3 p hp).1 (e ▸ hk)), a2.trans (hF.toBelow a2.size (fun k hk => by rw [hk]; exact hwp)), ?_, fun k hk => rfl⟩, hg, ?_, ⟨hwp, fun e => (hP p e).2 rfl⟩, fun k hk => ⟨(hX k hk).2.1, (hX k hk).2.2.1, (hF.block k (a3 k (hX k hk).1).2 (hX k hk).2.1).trans (hX k hk).2.2.2⟩⟩
  · rintro k ((rfl | hk) | hk)
    · exact ⟨(a3 _ hp).1, Nat.lt_of_lt_of_le (a3 _ hp).2 hF.size⟩
    · exact ⟨(a3 k (hP k hk).1).1, Nat.lt_of_lt_of_le (a3 k (hP k hk).1).2 hF.size⟩
    · exact ⟨(a3 k (hX k hk).1).1, Nat.lt_of_lt_of_le (a3 k (hX k hk).1).2 hF.size⟩
  · exact own_keep hown (fun k hk => hF.block k (a3 k (hP k hk).1).2 (hP k hk).2)
/-- What stands behind the append. -/
theorem beg_facts {w W W0 W3 : World} {d p : Nat} {X : Nat → Prop} {M : WM} {D : PD} {a' : Option Addr} {n1 cap' : Nat} {zs : List Int} (h : WrX w d p X W0 M D W) (hB : Below W.heap.size W W3) (hown : W3.ownsRow W.heap.size 3 1 (.slice a' n1 cap') n1 (intsV zs)) (hn : zs.length = n1) (hw : ∀ z ∈ zs, (Lit.int .i64 z).wf = true) :
    ∃ (P : Nat → Prop) (v : Value), P p ∧ OneP w d P W3 D W3 ∧ W3.heap[p]? = some (.cells #[.pointer (some ⟨d, 0, none⟩), .int .i64 M.lim, v, .int .i64 M.size] 75 (0, 0)) ∧
      ∀ (D' : PD) (w' : World), OneP w d P W3 D' w' → w'.cell? ⟨p, 0, none⟩ = some (.pointer (some ⟨d, 0, none⟩)) ∧ RowI .i64 w' a' n1 zs ∧ WrX w d p X W0 M D' w' ∧ (w'.cell? ⟨p, 2, none⟩ = some v ∧ w'.cell? ⟨p, 3, none⟩ = some (.int .i64 M.size) ∧ w'.frozen? ⟨p, 2, none⟩ = false ∧ w'.frozen? ⟨p, 3, none⟩ = false) ∧ ∀ z, WrX w d p X W0 ⟨M.lim, zs, z⟩ D' ((w'.setCell ⟨p, 2, none⟩ (.slice a' n1 cap')).setCell ⟨p, 3, none⟩ (.int .i64 z)) := by
  have hX := fun k (hk : X k) => h.lt hk
  obtain ⟨v, hO, h2, h3, h4, h5⟩ := h
  have hpl := (Array.getElem?_eq_some_iff.1 h2).1
  have h2' := (hB.block p hpl).trans h2
  have hbase : w.heap.size ≤ W.heap.size := hO.bel.size
  obtain ⟨T, a1, a2, a3, a4⟩ := hO
  have hg : ∀ k, some k = (Value.slice a' n1 cap').ownBlock → W.heap.size ≤ k ∧ k < W3.heap.size := fun k hk => by
    refine ⟨ownBlock_ge hown hk.symm, ?_⟩
    rcases hown.2 with ⟨e, _⟩ | ⟨g, cap, cur, e, hg, hh, _⟩
    · rw [e] at hk; cases hk
    · rw [e] at hk
      have : k = g := by simpa [Value.ownBlock] using hk
      rw [this]; exact (Array.getElem?_eq_some_iff.1 hh).1
  refine ⟨fun k => (wrP p v k ∨ X k) ∨ some k = (Value.slice a' n1 cap').ownBlock, v, .inl (.inl (.inl rfl)), ⟨T, a1.below hB, bel2 a2 hB, ?_, fun _ _ => rfl⟩, h2', ?_⟩
  · rintro k (hk | hk)
    · exact ⟨(a3 k hk).1, Nat.lt_of_lt_of_le (a3 k hk).2 hB.size⟩
    · exact ⟨fun hT => by have := a1.lt hT; have := (hg k hk).1; omega, (hg k hk).2⟩
  · intro D' w' hq
    have hqp := (hq.same (.inl (.inl (.inl rfl)))).trans h2'
    have hown' : w'.ownsRow W.heap.size 3 1 (.slice a' n1 cap') n1 (intsV zs) := own_keep hown (fun k hk => hq.same (.inr hk))
    obtain ⟨a9, c9, e9, -, hr9⟩ := rowI_own hown' hw
    have ea : a' = a9 := by injection e9
    subst ea
    have hX2 : ∀ k, X k → w'.heap[k]? = W0.heap[k]? := fun k hk => ((hq.same (.inl (.inr hk))).trans (hB.block k (hX k hk))).trans (h5 k hk).2.2
    refine ⟨cell_of_row _ _ 0 _ _ _ hqp, hr9, ?_, ⟨cell_of_row _ _ 2 _ _ _ hqp, cell_of_row _ _ 3 _ _ _ hqp, frozen_of_row _ _ 2 _ _ hqp, frozen_of_row _ _ 3 _ _ hqp⟩, fun z => ?_⟩
    · obtain ⟨T', b1, b2, b3, b4⟩ := hq
      exact ⟨v, ⟨T', b1, b2, fun k hk => b3 k (.inl hk), fun k hk => rfl⟩, hqp, own_keep h3 (fun k hk => (b4 k (.inl (.inl (.inr hk)))).trans (hB.block k (a3 k (.inl (.inr hk))).2)), h4, fun k hk => ⟨(h5 k hk).1, (h5 k hk).2.1, hX2 k hk⟩⟩
    · refine wr_set (l := .int .i64 0) (n := 0) (v := v) hq (.inl (.inl (.inl rfl))) hqp h4.1 (by rw [hn]; exact own_baseS hown' hbase) (fun k hk => ⟨.inr hk, ?_⟩) (fun k hk => ⟨.inl (.inr hk), (h5 k hk).1, fun e => ?_, hX2 k hk⟩) z
      · rintro rfl
        have := (hg _ hk).1
        omega
      · have := (hg k e).1
        have := hX k hk
        omega
set_option maxRecDepth 100000 in
set_option maxHeartbeats 8000000 in
theorem wbegin_any {w W W0 : World} {d p n : Nat} {X : Nat → Prop} {M : WM} {D : PD} (h : WrX w d p X W0 M D W) (hf : Fit D n) (hn : n ≤ 800000) (id : Int) (hl : M.segs.length ≤ 1000) (hw : ∀ z ∈ M.segs ++ [id], (Lit.int .i64 z).wf = true) :
    Calls Tryz.prog 33 #[.pointer (some ⟨p, 0, none⟩), .int .i64 id] W fun e w' => e = .returned (.int .i64 (begR M D id).2.2) ∧ WrX w d p X W0 (begR M D id).1 (begR M D id).2.1 w' := by
  obtain ⟨i0, hi, hz0, hz1, hz2⟩ := info_parts infoIntS
  have GF := Lib.hid (wfrom_any h.toO (by omega))
  have HL := Lib.hid hl
  have H := Lib.hid h
  have hm : Nm D.L := ris_names h.toO.ris
  have HM := Lib.hid hm
  have HF := Lib.hid hf
  have hf1 := fit_lay hf hm id
  have GN := Lib.hid (fun W' => name_any id W')
  have hs := nmW_size id
  rw [show (⟨(nameL (heldN id)).toArray⟩ : ByteArray) = nmW id from rfl] at GN
  have G0 := Lib.hid (fun (P : Nat → Prop) (v : Value) (W3 : World) (q1 : P p) (q2 : OneP w d P W3 D W3) (q3 : W3.heap[p]? = some (.cells #[.pointer (some ⟨d, 0, none⟩), .int .i64 M.lim, v, .int .i64 M.size] 75 (0, 0))) => wlay_any q2 q1 q3 hf (by omega) id)
  have hw1 : ∀ {D1 : PD} {P : Nat → Prop} {W3 w1 : World}, OneP w d P W3 D1 w1 → Nm D1.L := fun h => ris_names h.ris
  have HW := Lib.hid hw
  have hnl : (M.segs ++ [id]).length = M.segs.length + 1 := by simp
  have hint : intsV (M.segs ++ [id]) = intsV M.segs ++ [.int .i64 id] := by simp [intsV]
  have HI := Lib.hid hint
  have HNL := Lib.hid hnl
  unfold begR
  dsimp only
  generalize layR D id = L at *
  obtain ⟨D1, e1⟩ := L
  dsimp only at *
  have G1 := Lib.hid (fun (P : Nat → Prop) (W3 w1 : World) (h1 : OneP w d P W3 D1 w1) (a' : Option Addr) (n1 cap' : Nat) (hz : RowI .i64 w1 a' n1 (M.segs ++ [id])) => saveP h1 hf1 (by omega) a' n1 cap' (M.segs ++ [id]) hz)
  have hfr := Lib.hid (fun (P : Nat → Prop) (W3 w1 : World) (h1 : OneP w d P W3 D1 w1) => removeP h1 hf1 (by omega) (nmW id) hs)
  have hfs := Lib.hid (fun (P : Nat → Prop) (W3 w1 w2 : World) (h1 : OneP w d P W3 D1 w1) (h2 : OneP w d P W3 (saR D1 (M.segs ++ [id])).1 w2) => removeP h2 (fit_saR hf1 (hw1 h1) (M.segs ++ [id])) (by omega) (nmW id) hs)
  generalize M.segs ++ [id] = zs at *
  clear h hm hw hint hnl hl hs hw1 hf hf1
  by_cases h1 : e1 = 0
  · rw [if_pos h1]
    subst h1
    generalize saR D1 zs = S at *
    obtain ⟨D2, e2⟩ := S
    dsimp only at *
    by_cases h2 : e2 = 0
    · rw [if_pos h2]
      subst h2
      go_enter Tryz.func33, Tryz.ntmps33
      go_wp2_with (first
        | (go_at_call 41; ((with_reducible refine GF.out.mono ?_); rintro e w1 ⟨lb, rfl, hs1, hB1, hI1⟩; have GL := Lib.hid (wlist_any lb M.segs (W.heap.size + 2) w1 (by omega) (by have := HL.out; omega) hI1); have HB1 := Lib.hid hB1; clear hI1 hB1))
        | (go_at_call 40; ((with_reducible refine GL.out.mono ?_); rintro e w2 ⟨v1, rfl, hown, hB2⟩; have HB2 := Lib.hid (HB1.out.trans (hB2.mono HB1.out.size)); have hv1 := own_baseS hown HB1.out.size; have hsz2 : W.heap.size ≤ w2.heap.size := HB2.out.size; have hl9 := HL.out; clear hown hB2))
        | (at_builtin; refine wpList_append_own _ rfl _ _ 32 rfl W.heap.size 3 i0 (.int .i64 0) 1 8 Tryz.underlying32 hi hz0 hz1 hz2 rfl (by decide) _ _ _ rfl (hv1.alloc _) ⟨w2.heap.size, 0, none⟩ 1 1 [.int .i64 id] rfl rfl (cell_one_new _ _ _) (by simp [Value.oneCell']) (by unfold maxLen; omega) (by omega) (by simp; omega) ?_; intro v' w3 hown3 hgrow _; obtain ⟨g', cap', rfl⟩ := ownsRow_succ hown3; have HB3 := Lib.hid ((HB2.out.alloc hsz2 (.cells #[.int .i64 id] 3)).grown hgrow (by simp; omega) (fun k e => ownBlock_ge hv1 e)); rw [← HI.out] at hown3; obtain ⟨P, v, q1, q2, q3, q4⟩ := beg_facts H.out HB3.out hown3 HNL.out HW.out; have HQ := Lib.hid q4; have GY := Lib.hid (G0.out P v w3 q1 q2 q3); clear q4 q1 q2 q3 hown3 hgrow hv1)
        | (go_at_call 57; ((with_reducible refine GY.out.mono ?_); rintro e w4 ⟨rfl, hO4⟩; have HO4 := Lib.hid hO4; obtain ⟨k4, hr4, -⟩ := HQ.out _ _ hO4; have k4d : w4.drew.cell? ⟨p, 0, none⟩ = some (.pointer (some ⟨d, 0, none⟩)) := k4; have HR4 := Lib.hid hr4; clear hO4 hr4))
        | (go_at_call 42; ((with_reducible refine (G1.out _ _ _ HO4.out _ _ _ HR4.out).mono ?_); rintro e w5 ⟨rfl, hO5⟩; have HO5 := Lib.hid hO5; obtain ⟨k5, -, -, ⟨s2, s3, z2, z3⟩, hE⟩ := HQ.out _ _ hO5; have HE := Lib.hid hE; have k5d : w5.drew.cell? ⟨p, 0, none⟩ = some (.pointer (some ⟨d, 0, none⟩)) := k5; clear hO5 hE)))
      go_ret
      exact ⟨rfl, HE.out 16⟩
    · rw [if_neg h2]
      go_enter Tryz.func33, Tryz.ntmps33
      go_wp2_with (first
        | (go_at_call 41; ((with_reducible refine GF.out.mono ?_); rintro e w1 ⟨lb, rfl, hs1, hB1, hI1⟩; have GL := Lib.hid (wlist_any lb M.segs (W.heap.size + 2) w1 (by omega) (by have := HL.out; omega) hI1); have HB1 := Lib.hid hB1; clear hI1 hB1))
        | (go_at_call 40; ((with_reducible refine GL.out.mono ?_); rintro e w2 ⟨v1, rfl, hown, hB2⟩; have HB2 := Lib.hid (HB1.out.trans (hB2.mono HB1.out.size)); have hv1 := own_baseS hown HB1.out.size; have hsz2 : W.heap.size ≤ w2.heap.size := HB2.out.size; have hl9 := HL.out; clear hown hB2))
        | (at_builtin; refine wpList_append_own _ rfl _ _ 32 rfl W.heap.size 3 i0 (.int .i64 0) 1 8 Tryz.underlying32 hi hz0 hz1 hz2 rfl (by decide) _ _ _ rfl (hv1.alloc _) ⟨w2.heap.size, 0, none⟩ 1 1 [.int .i64 id] rfl rfl (cell_one_new _ _ _) (by simp [Value.oneCell']) (by unfold maxLen; omega) (by omega) (by simp; omega) ?_; intro v' w3 hown3 hgrow _; obtain ⟨g', cap', rfl⟩ := ownsRow_succ hown3; have HB3 := Lib.hid ((HB2.out.alloc hsz2 (.cells #[.int .i64 id] 3)).grown hgrow (by simp; omega) (fun k e => ownBlock_ge hv1 e)); rw [← HI.out] at hown3; obtain ⟨P, v, q1, q2, q3, q4⟩ := beg_facts H.out HB3.out hown3 HNL.out HW.out; have HQ := Lib.hid q4; have GY := Lib.hid (G0.out P v w3 q1 q2 q3); clear q4 q1 q2 q3 hown3 hgrow hv1)
        | (go_at_call 57; ((with_reducible refine GY.out.mono ?_); rintro e w4 ⟨rfl, hO4⟩; have HO4 := Lib.hid hO4; obtain ⟨k4, hr4, -⟩ := HQ.out _ _ hO4; have k4d : w4.drew.cell? ⟨p, 0, none⟩ = some (.pointer (some ⟨d, 0, none⟩)) := k4; have HR4 := Lib.hid hr4; clear hO4 hr4))
        | (go_at_call 42; ((with_reducible refine (G1.out _ _ _ HO4.out _ _ _ HR4.out).mono ?_); rintro e w5 ⟨rfl, hO5⟩; have HO5 := Lib.hid hO5; obtain ⟨k5, -, -, ⟨s2, s3, z2, z3⟩, hE⟩ := HQ.out _ _ hO5; have HE := Lib.hid hE; have k5d : w5.drew.cell? ⟨p, 0, none⟩ = some (.pointer (some ⟨d, 0, none⟩)) := k5; clear hO5 hE)))
      go_region_with (first
        | (go_at_call 44; ((with_reducible refine (GN.out _).mono ?_); rintro e w6 ⟨rfl, hB6⟩; have hO6 := HO5.out.below ((Below.refl w5.heap.size w5).drew.trans hB6); obtain ⟨k6, -⟩ := HQ.out _ _ hO6))
        | (go_at_call 43; ((with_reducible refine (hfs.out _ _ _ _ HO4.out hO6).mono ?_); rintro e w7 ⟨rfl, hO7⟩)))
      all_goals
        go_wp2
        go_ret
        exact ⟨rfl, (HQ.out _ _ hO7).2.2.1⟩
  · rw [if_neg h1]
    dsimp only
    rw [if_neg h1]
    go_enter Tryz.func33, Tryz.ntmps33
    go_wp2_with (first
      | (go_at_call 41; ((with_reducible refine GF.out.mono ?_); rintro e w1 ⟨lb, rfl, hs1, hB1, hI1⟩; have GL := Lib.hid (wlist_any lb M.segs (W.heap.size + 2) w1 (by omega) (by have := HL.out; omega) hI1); have HB1 := Lib.hid hB1; clear hI1 hB1))
      | (go_at_call 40; ((with_reducible refine GL.out.mono ?_); rintro e w2 ⟨v1, rfl, hown, hB2⟩; have HB2 := Lib.hid (HB1.out.trans (hB2.mono HB1.out.size)); have hv1 := own_baseS hown HB1.out.size; have hsz2 : W.heap.size ≤ w2.heap.size := HB2.out.size; have hl9 := HL.out; clear hown hB2))
      | (at_builtin; refine wpList_append_own _ rfl _ _ 32 rfl W.heap.size 3 i0 (.int .i64 0) 1 8 Tryz.underlying32 hi hz0 hz1 hz2 rfl (by decide) _ _ _ rfl (hv1.alloc _) ⟨w2.heap.size, 0, none⟩ 1 1 [.int .i64 id] rfl rfl (cell_one_new _ _ _) (by simp [Value.oneCell']) (by unfold maxLen; omega) (by omega) (by simp; omega) ?_; intro v' w3 hown3 hgrow _; obtain ⟨g', cap', rfl⟩ := ownsRow_succ hown3; have HB3 := Lib.hid ((HB2.out.alloc hsz2 (.cells #[.int .i64 id] 3)).grown hgrow (by simp; omega) (fun k e => ownBlock_ge hv1 e)); rw [← HI.out] at hown3; obtain ⟨P, v, q1, q2, q3, q4⟩ := beg_facts H.out HB3.out hown3 HNL.out HW.out; have HQ := Lib.hid q4; have GY := Lib.hid (G0.out P v w3 q1 q2 q3); clear q4 q1 q2 q3 hown3 hgrow hv1)
      | (go_at_call 57; ((with_reducible refine GY.out.mono ?_); rintro e w4 ⟨rfl, hO4⟩; have HO4 := Lib.hid hO4; obtain ⟨k4, hr4, -⟩ := HQ.out _ _ hO4; have k4d : w4.drew.cell? ⟨p, 0, none⟩ = some (.pointer (some ⟨d, 0, none⟩)) := k4; have HR4 := Lib.hid hr4; clear hO4 hr4)))
    go_region_with (first
      | (go_at_call 44; ((with_reducible refine (GN.out _).mono ?_); rintro e w6 ⟨rfl, hB6⟩; have hO6 := HO4.out.below ((Below.refl w4.heap.size w4).drew.trans hB6); obtain ⟨k6, -⟩ := HQ.out _ _ hO6))
      | (go_at_call 43; ((with_reducible refine (hfr.out _ _ _ hO6).mono ?_); rintro e w7 ⟨rfl, hO7⟩)))
    all_goals
      go_wp2
      go_ret
      exact ⟨rfl, (HQ.out _ _ hO7).2.2.1⟩

end Go.Proofs.YtoieacmipejfeaaGreatDoor

/- Package writer: Sync, next, Make. -/
namespace Go.Proofs.YtoieacmipejfeaaGreatDoor
open Go.RowKit Go.Shelf
set_option linter.unusedVariables false
attribute [local go_sem] Oper.semAt_some wide_fn wide_round_fn

set_option maxRecDepth 100000 in
set_option maxHeartbeats 2000000 in
theorem wsync_any {w W W0 : World} {d p n : Nat} {X : Nat → Prop} {M : WM} {D : PD} (h : WrX w d p X W0 M D W) (hf : Fit D n) (hn : n ≤ 900000) (hl : 0 < M.segs.length ∧ M.segs.length < 1000000) :
    Calls Tryz.prog 15 #[.pointer (some ⟨p, 0, none⟩)] W fun e w' => e = .returned (.int .i64 (askE D (nmW (lastW M)))) ∧ WrX w d p X W0 M (syncD D (nmW (lastW M))) w' := by
  have GF := Lib.hid (fun W' (h' : WrX w d p X W0 M D W') => wfile_any h'.toO hl)
  have H := Lib.hid h
  obtain ⟨v, hO, h2, h3, h4, h5⟩ := h
  have HK := Lib.hid (fun (D' : PD) (w' : World) (h : OneP w d (fun k => wrP p v k ∨ X k) W D' w') => (WrX.disk h2 h3 h4 h5 h : WrX w d p X W0 M D' w'))
  have HC := Lib.hid (fun (D' : PD) (w' : World) (h : OneP w d (fun k => wrP p v k ∨ X k) W D' w') => (show w'.cell? ⟨p, 0, none⟩ = some (.pointer (some ⟨d, 0, none⟩)) from cell_of_row _ _ 0 _ _ _ ((h.same (.inl (.inl rfl))).trans h2)))
  have GS := Lib.hid (fun W1 (h1 : OneP w d (fun k => wrP p v k ∨ X k) W D W1) => syncP h1 hf (by omega) (nmW (lastW M)) (nmW_size _))
  have HO := Lib.hid hO
  have c0 := HC.out _ _ hO
  have c0d : W.drew.cell? ⟨p, 0, none⟩ = some (.pointer (some ⟨d, 0, none⟩)) := c0
  have hWd : WrX w d p X W0 M D W.drew := H.out.below (Below.refl W.heap.size W).drew
  have GFd := Lib.hid (GF.out _ hWd)
  unfold Gives at GFd
  generalize nmW (lastW M) = s at *
  clear h2 h3 h4 h5 hf hO hWd
  go_enter Tryz.func15, Tryz.ntmps15
  go_wp2
  go_region_with (first
    | (go_at_call 37; ((with_reducible refine GFd.out.mono ?_); rintro e w1 ⟨rfl, hB1⟩; have hO1 := HO.out.below ((Below.refl W.heap.size W).drew.trans hB1); have k1 := HC.out _ _ hO1))
    | (go_at_call 39; ((with_reducible refine (GS.out _ hO1).mono ?_); rintro e w2 ⟨rfl, hO2⟩)))
  all_goals
    go_wp2
    go_ret
    exact ⟨rfl, HK.out _ _ hO2⟩
set_option maxRecDepth 100000 in
set_option maxHeartbeats 4000000 in
theorem wnext_any {w W W0 : World} {d p n : Nat} {X : Nat → Prop} {M : WM} {D : PD} (h : WrX w d p X W0 M D W) (hf : Fit D n) (hn : n ≤ 700000) (hl : 0 < M.segs.length ∧ M.segs.length ≤ 1000) (hw : ∀ z ∈ M.segs ++ [lastW M + 1], (Lit.int .i64 z).wf = true) (hr : lastW M ≤ 99999999 ∧ 0 ≤ lastW M) :
    Calls Tryz.prog 36 #[.pointer (some ⟨p, 0, none⟩)] W fun e w' => e = .returned (.int .i64 (nextR M D).2.2) ∧ WrX w d p X W0 (nextR M D).1 (nextR M D).2.1 w' := by
  have GA := Lib.hid (wactive_any h.toO ⟨hl.1, by omega⟩)
  have H := Lib.hid h
  have G1 := Lib.hid (fun W1 (h1 : WrX w d p X W0 M D W1) => wsync_any h1 hf (by omega) ⟨hl.1, by omega⟩)
  have G2 := Lib.hid (fun W1 (h1 : WrX w d p X W0 M (syncD D (nmW (lastW M))) W1) => wbegin_any h1 (hf.sync _) (by omega) (lastW M + 1) hl.2 hw)
  have hw9 : IntKind.i64.wrap (lastW M + 1) = lastW M + 1 := IntWalk.i64_in _ (by omega)
  have HROW := Lib.hid (fun W1 (h1 : WrX w d p X W0 M D W1) => (show ∃ a cap, W1.cell? ⟨p, 2, none⟩ = some (.slice a M.segs.length cap) from let ⟨a, cap, hb, _⟩ := h1.toO.row; ⟨a, cap, cell_of_row _ _ 2 _ _ _ hb⟩))
  have HS := Lib.hid (rfl : M.segs.length = M.segs.length)
  unfold Gives at GA
  unfold nextR
  generalize lastW M = z at *
  generalize syncD D (nmW z) = D1 at *
  generalize askE D (nmW z) = e0 at *
  generalize begR M D1 (z + 1) = R at *
  obtain ⟨M2, D2, e2⟩ := R
  obtain ⟨m, hm⟩ : ∃ m, M.segs.length = m := ⟨_, rfl⟩
  rw [hm] at HROW ⊢
  clear h hf hw hl HS hm
  have ROW : ∀ W1, Below W.heap.size W W1 → ∃ a cap, W1.cell? ⟨p, 2, none⟩ = some (.slice a m cap) := fun W1 hB => by
    exact HROW.out W1 (H.out.below hB)
  have RW := Lib.hid ROW
  clear ROW
  by_cases h1 : 200 ≤ m
  · rw [if_pos (Or.inl h1)]
    have h1i : (200 : Int) ≤ (m : Int) := by omega
    clear h1 hn
    go_enter Tryz.func36, Tryz.ntmps36
    go_wp2_with (go_at_call 38; ((with_reducible refine GA.out.mono ?_); rintro e w1 ⟨rfl, hB1⟩; obtain ⟨a, cap, c2⟩ := RW.out _ hB1))
    go_ret
    exact ⟨rfl, H.out.below hB1⟩
  · have h1i : ¬ (200 : Int) ≤ (m : Int) := by omega
    by_cases h2 : 99999999 < z + 1
    · rw [if_pos (Or.inr h2)]
      clear h1 hn
      go_enter Tryz.func36, Tryz.ntmps36
      go_wp2_with (go_at_call 38; ((with_reducible refine GA.out.mono ?_); rintro e w1 ⟨rfl, hB1⟩; obtain ⟨a, cap, c2⟩ := RW.out _ hB1))
      go_ret
      exact ⟨rfl, H.out.below hB1⟩
    · rw [if_neg (fun h => h.elim h1 h2)]
      clear h1 hn
      by_cases h3 : e0 = 0
      · subst h3
        rw [if_neg (by simp)]
        go_enter Tryz.func36, Tryz.ntmps36
        go_wp2_with (first
          | (go_at_call 38; ((with_reducible refine GA.out.mono ?_); rintro e w1 ⟨rfl, hB1⟩; obtain ⟨a, cap, c2⟩ := RW.out _ hB1))
          | (go_at_call 15; ((with_reducible refine (G1.out _ (H.out.below hB1)).mono ?_); rintro e w2 ⟨rfl, hO2⟩; have HO2 := Lib.hid hO2; clear hO2))
          | (go_at_call 33; ((with_reducible refine (G2.out _ HO2.out).mono ?_); rintro e w3 ⟨rfl, hO3⟩; have HO3 := Lib.hid hO3; clear hO3)))
        go_ret
        exact ⟨rfl, HO3.out⟩
      · rw [if_pos h3]
        go_enter Tryz.func36, Tryz.ntmps36
        go_wp2_with (first
          | (go_at_call 38; ((with_reducible refine GA.out.mono ?_); rintro e w1 ⟨rfl, hB1⟩; obtain ⟨a, cap, c2⟩ := RW.out _ hB1))
          | (go_at_call 15; ((with_reducible refine (G1.out _ (H.out.below hB1)).mono ?_); rintro e w2 ⟨rfl, hO2⟩; have HO2 := Lib.hid hO2; clear hO2)))
        go_ret
        exact ⟨rfl, HO2.out⟩
theorem wr_new {w W : World} {d : Nat} {D : PD} (h : One w d D W) (lim : Int) : WrO w d W.heap.size ⟨lim, [], 0⟩ D (W.alloc (.cells #[.pointer (some ⟨d, 0, none⟩), .int .i64 lim, .slice none 0 0, .int .i64 0] 75)) := by
  obtain ⟨T, a1, a2⟩ := h
  have hB := bel_alloc (Below.refl W.heap.size W) (.cells #[.pointer (some ⟨d, 0, none⟩), .int .i64 lim, .slice none 0 0, .int .i64 0] 75)
  have hb := World.alloc_heap_new W (.cells #[.pointer (some ⟨d, 0, none⟩), .int .i64 lim, .slice none 0 0, .int .i64 0] 75)
  refine ⟨.slice none 0 0, ⟨T, a1.below hB, bel2 a2 hB, fun k hk => ?_, fun _ _ => rfl⟩, hb, World.ownsRow_nil _ _ _ _, a2.size, fun e => by cases e⟩
  rcases hk with rfl | hk
  · exact ⟨fun hT => by have := a1.lt hT; omega, by simp⟩
  · cases hk
set_option maxRecDepth 100000 in
set_option maxHeartbeats 4000000 in
theorem wmake_any {w W : World} {d n : Nat} {D : PD} (h : One w d D W) (hf : Fit D n) (hn : n ≤ 800000) (l : Int) :
    Calls Tryz.prog 11 #[.pointer (some ⟨d, 0, none⟩), .int .i64 l] W fun e w' => ∃ p, e = .returned (.tuple #[if (makR D l).2.2 = 0 then .pointer (some ⟨p, 0, none⟩) else .pointer none, .int .i64 (makR D l).2.2]) ∧ WrO w d p (makR D l).1 (makR D l).2.1 w' := by
  have GH := Lib.hid (wheld_any l W)
  have H := Lib.hid (fun W' (hB : Below W.heap.size W W') => wr_new (h.below hB) (limW l))
  have GB := Lib.hid (fun (p : Nat) (W1 : World) (h1 : WrO w d p ⟨limW l, [], 0⟩ D W1) => wbegin_any (h1.toX W1) hf hn 1 (by simp) (by intro z hz; simp at hz; subst hz; decide))
  unfold Gives at GH
  unfold makR
  generalize begR ⟨limW l, [], 0⟩ D 1 = R at *
  obtain ⟨M2, D2, e2⟩ := R
  clear h hf
  dsimp only at *
  by_cases h1 : e2 = 0
  · subst h1
    simp only [if_true]
    go_enter Tryz.func11, Tryz.ntmps11
    go_wp2_with (first
      | (go_at_call 32; ((with_reducible refine GH.out.mono ?_); rintro e w1 ⟨rfl, hB1⟩; have H1 := Lib.hid (H.out _ hB1); clear hB1))
      | (go_at_call 33; ((with_reducible refine (GB.out _ _ H1.out).mono ?_); rintro e w2 ⟨rfl, hO2⟩; have HO2 := Lib.hid hO2; clear hO2)))
    go_ret2
    exact ⟨_, rfl, HO2.out.toO⟩
  · simp only [if_neg h1]
    go_enter Tryz.func11, Tryz.ntmps11
    go_wp2_with (first
      | (go_at_call 32; ((with_reducible refine GH.out.mono ?_); rintro e w1 ⟨rfl, hB1⟩; have H1 := Lib.hid (H.out _ hB1); clear hB1))
      | (go_at_call 33; ((with_reducible refine (GB.out _ _ H1.out).mono ?_); rintro e w2 ⟨rfl, hO2⟩; have HO2 := Lib.hid hO2; clear hO2)))
    go_ret2
    exact ⟨_, rfl, HO2.out.toO⟩

end Go.Proofs.YtoieacmipejfeaaGreatDoor

/- Package writer: what Write wants. Printed by gen_wrtw.py. -/
namespace Go.Proofs.YtoieacmipejfeaaGreatDoor
open Go.RowKit Go.Shelf
set_option linter.unusedVariables false
attribute [local go_sem] Oper.semAt_some wide_fn wide_round_fn

theorem nm_layR {D : PD} (h : Nm D.L) (id : Int) : Nm (layR D id).1.L := by
  unfold layR
  generalize nmW id = s
  generalize hdW id = b
  dsimp only
  have m1 : Nm (removeD D s).L := nm_removeD h s
  have m2 : Nm (if askE D s = 0 ∨ askE D s = 19 then createD (removeD D s) s else removeD D s).L := by split; exact nm_createD m1 s; exact m1
  generalize (if askE D s = 0 ∨ askE D s = 19 then createD (removeD D s) s else removeD D s) = D2 at *
  generalize (if askE D s = 0 ∨ askE D s = 19 then createE (removeD D s) s else askE D s) = e2 at *
  have m3 : Nm (if e2 = 0 then appendD D2 s b else D2).L := by
    split
    · unfold appendD; split
      · exact nm_turn (g := appP b) (fun _ => rfl) m2 s
      · exact m2
    · exact m2
  generalize (if e2 = 0 then appendD D2 s b else D2) = D3 at *
  generalize (if e2 = 0 then appendE D2 s b else e2) = e3 at *
  split
  · unfold syncD; split
    · exact nm_turn (g := keepP) (fun _ => rfl) m3 s
    · exact m3
  · exact m3
theorem nm_syncD {D : PD} (h : Nm D.L) (s : ByteArray) : Nm (syncD D s).L := by
  unfold syncD; split
  · exact nm_turn (g := keepP) (fun _ => rfl) h s
  · exact h
theorem fit_beg {D : PD} {n : Nat} (hf : Fit D n) (hm : Nm D.L) (M : WM) (id : Int) : Fit (begR M D id).2.1 (n + 10) := by
  have f1 := fit_lay hf hm id
  have m1 := nm_layR hm id
  unfold begR
  dsimp only
  generalize layR D id = L at *
  obtain ⟨D1, e1⟩ := L
  dsimp only at *
  have f2 := fit_saR f1 m1 (M.segs ++ [id])
  generalize saR D1 (M.segs ++ [id]) = S at *
  obtain ⟨D2, e2⟩ := S
  dsimp only at *
  by_cases h1 : e1 = 0
  · rw [if_pos h1]
    dsimp only
    split
    · exact f2.up (by omega)
    · exact (f2.remove _).up (by omega)
  · rw [if_neg h1]
    dsimp only
    split
    · exact f1.up (by omega)
    · exact (f1.remove _).up (by omega)
theorem fit_next {D : PD} {n : Nat} (hf : Fit D n) (hm : Nm D.L) (M : WM) : Fit (nextR M D).2.1 (n + 11) := by
  unfold nextR
  split
  · exact hf.up (by omega)
  · split
    · exact (hf.sync _).up (by omega)
    · exact (fit_beg (hf.sync _) (nm_syncD hm _) M _).up (by omega)
theorem beg_cases (M : WM) (D : PD) (id : Int) : (begR M D id).1 = M ∨ (begR M D id).1 = { M with segs := M.segs ++ [id], size := 16 } := by
  unfold begR
  dsimp only
  generalize layR D id = L
  generalize (if L.2 = 0 then saR L.1 (M.segs ++ [id]) else L) = B
  split
  · exact .inr rfl
  · exact .inl rfl
theorem next_cases (M : WM) (D : PD) : (nextR M D).1 = M ∨ (nextR M D).1 = { M with segs := M.segs ++ [lastW M + 1], size := 16 } := by
  unfold nextR
  split
  · exact .inl rfl
  · split
    · exact .inl rfl
    · exact beg_cases M _ _
/-- A kept block is written. -/
theorem WrX.frame {w W W' W0 W1 : World} {d p q : Nat} {X Y : Nat → Prop} {M : WM} {D : PD} (h : WrX w d p X W1 M D W) (hF : FrameT (fun k => k = q) W W') (hq : X q) (hwq : w.heap.size ≤ q) (hY : ∀ k, Y k → X k ∧ k ≠ q) (h0 : ∀ k, Y k → W1.heap[k]? = W0.heap[k]?) : WrX w d p Y W0 M D W' := by
  obtain ⟨v, ⟨T, a1, a2, a3, a4⟩, h2, h3, h4, h5⟩ := h
  have hqT := a3 q (.inr hq)
  have hq5 := h5 q hq
  refine ⟨v, ⟨T, a1.frame hF (fun k hk e => hqT.1 (e ▸ hk)), a2.trans (hF.toBelow a2.size (fun k hk => by rw [hk]; exact hwq)), ?_, fun _ _ => rfl⟩, (hF.block p (Array.getElem?_eq_some_iff.1 h2).1 (fun e => hq5.1 e.symm)).trans h2, own_keep h3 (fun k hk => hF.block k (a3 k (.inl (.inr hk))).2 (fun e => hq5.2.1 (e ▸ hk))), h4, fun k hk => ⟨(h5 k (hY k hk).1).1, (h5 k (hY k hk).1).2.1, (hF.block k (a3 k (.inr (hY k hk).1)).2 (hY k hk).2).trans ((h5 k (hY k hk).1).2.2.trans (h0 k hk))⟩⟩
  rintro k (hk | hk)
  · exact ⟨(a3 k (.inl hk)).1, Nat.lt_of_lt_of_le (a3 k (.inl hk)).2 hF.size⟩
  · exact ⟨(a3 k (.inr (hY k hk).1)).1, Nat.lt_of_lt_of_le (a3 k (.inr (hY k hk).1)).2 hF.size⟩
/-- The writer's size is told anew. -/
theorem WrX.sized {w W W0 : World} {d p : Nat} {X : Nat → Prop} {M : WM} {D : PD} (h : WrX w d p X W0 M D W) (z : Int) : WrX w d p X W0 { M with size := z } D (W.setCell ⟨p, 3, none⟩ (.int .i64 z)) := by
  obtain ⟨v, ⟨T, a1, a2, a3, a4⟩, h2, h3, h4, h5⟩ := h
  have hF : FrameT (fun k => k = p) W (W.setCell ⟨p, 3, none⟩ (.int .i64 z)) := FrameT.setCell W p 3 (.int .i64 z)
  have hg : (W.setCell ⟨p, 3, none⟩ (.int .i64 z)).heap[p]? = some (.cells #[.pointer (some ⟨d, 0, none⟩), .int .i64 M.lim, v, .int .i64 z] 75 (0, 0)) := by
    rw [heap_setCell_same _ _ _ _ _ _ h2]; rfl
  refine ⟨v, ⟨T, a1.frame hF (fun k hk e => (a3 p (.inl (.inl rfl))).1 (e ▸ hk)), a2.trans (hF.toBelow a2.size (fun k hk => by rw [hk]; exact h4.1)), fun k hk => ⟨(a3 k hk).1, Nat.lt_of_lt_of_le (a3 k hk).2 hF.size⟩, fun _ _ => rfl⟩, hg, own_keep h3 (fun k hk => hF.block k (a3 k (.inl (.inr hk))).2 (fun e => h4.2 (e ▸ hk))), h4, fun k hk => ⟨(h5 k hk).1, (h5 k hk).2.1, (hF.block k (a3 k (.inr hk)).2 (h5 k hk).1).trans (h5 k hk).2.2⟩⟩
theorem WrX.cells {w W W0 : World} {d p : Nat} {X : Nat → Prop} {M : WM} {D : PD} (h : WrX w d p X W0 M D W) : W.cell? ⟨p, 0, none⟩ = some (.pointer (some ⟨d, 0, none⟩)) ∧ W.cell? ⟨p, 1, none⟩ = some (.int .i64 M.lim) ∧ W.cell? ⟨p, 3, none⟩ = some (.int .i64 M.size) ∧ W.frozen? ⟨p, 3, none⟩ = false := by
  obtain ⟨v, -, h2, -⟩ := h
  exact ⟨cell_of_row _ _ 0 _ _ _ h2, cell_of_row _ _ 1 _ _ _ h2, cell_of_row _ _ 3 _ _ _ h2, frozen_of_row _ _ 3 _ _ h2⟩
theorem WrO.plt {w W : World} {d p : Nat} {M : WM} {D : PD} (h : WrO w d p M D W) : p < W.heap.size := by
  obtain ⟨v, -, h2, -⟩ := h
  exact (Array.getElem?_eq_some_iff.1 h2).1
theorem nonE {b : ByteArray} (h : 0 < b.size) : b.toList.isEmpty = false := by
  rw [ByteArray.toList_eq, List.isEmpty_eq_false_iff, ← List.length_pos_iff]
  exact h
theorem wappendX {w W W0 : World} {d p n : Nat} {X : Nat → Prop} {M : WM} {D : PD} (h : WrX w d p X W0 M D W) (hf : Fit D n) (hn : n ≤ 1000000) (s b : ByteArray) (hs : s.size ≤ maxLen) (hb : b.size ≤ 1000000) : Calls Tryz.prog 30 #[.pointer (some ⟨d, 0, none⟩), .string s, .string b] W fun e w' => e = .returned (.int .i64 (appendE D s b)) ∧ WrX w d p X W0 M (appendD D s b) w' := by
  obtain ⟨v, hO, h2, h3, h4, h5⟩ := h
  refine (appendP hO hf hn s b hs hb).mono ?_
  rintro e w' ⟨rfl, hq⟩
  exact ⟨rfl, WrX.disk h2 h3 h4 h5 hq⟩

end Go.Proofs.YtoieacmipejfeaaGreatDoor
