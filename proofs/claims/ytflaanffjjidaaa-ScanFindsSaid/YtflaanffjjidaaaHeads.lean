/- HeadM, Head, HeadId, HeadRef: in one text. -/
import Derived.Test.YtflaanffjjidaaaRef
import Derived.Test.YtflaanffjjidaaaRecs
import Derived.Lib.AtoiAll
import Derived.Lib.Strings
import Derived.Test.YtflaanffjjidaaaKnown1
import Derived.Test.YtflaanffjjidaaaShelf
import Derived.Maps.AppendAt
import Derived.Laws.OwnMore
import Derived.Lib.SlBytesConst
import Derived.ArgAppend
import Derived.Deep.QuietTactic
import Derived.BigQuiet
/- Names and heads of segments, as plain lists of bytes. -/
namespace Go.Proofs.Ytflaanffjjidaaa
open Go.RowKit Go.Shelf
set_option linter.unusedVariables false

/-- The number that a segment is given, held within what a name can say. -/
def heldN (i : Int) : Nat := (min (max i 1) 99999999).toNat
theorem heldN_bd (i : Int) : 1 ≤ heldN i ∧ heldN i ≤ 99999999 := by unfold heldN; omega
theorem heldN_self {n : Nat} (h1 : 1 ≤ n) (h2 : n ≤ 99999999) : heldN (n : Int) = n := by unfold heldN; omega
/-- What a segment begins with. -/
def headA (n : Nat) : ByteArray := ⟨#[76, 65, 68, 69]⟩ ++ ⟨(eigL n).toArray⟩ ++ ⟨#[0, 0, 0, 0]⟩
def headS (n : Nat) : ByteArray := headA n ++ ⟨(eigL (moreN 0 (headA n))).toArray⟩
theorem headA_size (n : Nat) : (headA n).size = 12 := by
  unfold headA; rw [ByteArray.size_append, ByteArray.size_append]; rfl
theorem headS_size (n : Nat) : (headS n).size = 16 := by
  unfold headS; rw [ByteArray.size_append, headA_size]; rfl
theorem headS_list (n : Nat) : (headS n).data.toList = [76, 65, 68, 69] ++ (eigL n ++ ([0, 0, 0, 0] ++ eigL (moreN 0 (headA n)))) := by
  unfold headS; rw [ba_toList]; conv => lhs; arg 1; unfold headA
  rw [ba_toList, ba_toList]; simp
theorem headS_inj {n m : Nat} (hn : n < 4294967296) (hm : m < 4294967296) (h : (headS n).data.toList = (headS m).data.toList) : n = m := by
  rw [headS_list, headS_list] at h
  have h2 := List.append_cancel_left h
  have h3 := List.append_inj_left h2 rfl
  have := congrArg leN h3
  rwa [leN_eigL n hn, leN_eigL m hm] at this
/-- What head.Check answers. -/
def chkM (s h : List UInt8) : Int := if Lib.hasPrefix s h then 1 else if Lib.hasPrefix h s then 3 else 4

end Go.Proofs.Ytflaanffjjidaaa

/- The contracts of package head's functions but ID: held, digits, Name, Bytes, Check. -/
namespace Go.Proofs.Ytflaanffjjidaaa
open Go.RowKit Go.Shelf
set_option linter.unusedVariables false
attribute [local go_sem] Oper.semAt_some wide_fn wide_round_fn

theorem heldN_eq (i : Int) : ((heldN i : Nat) : Int) = min (max i 1) 99999999 := by unfold heldN; omega
theorem held_any (i : Int) (w : World) : Calls Try.prog 78 #[.int .i64 i] w fun e w' => e = .returned (.int .i64 (heldN i)) ∧ w' = w := by
  rw [heldN_eq]
  go_enter Try.func78, Try.ntmps78
  go_wp2
  go_ret
  exact ⟨rfl, rfl⟩

set_option maxRecDepth 100000 in
set_option maxHeartbeats 1000000 in
theorem headBytes_any (i : Int) (w : World) : Gives Try.prog 48 #[.int .i64 i] w (.string (headS (heldN i))) := by
  have HH := Lib.hid (held_any i)
  have hb := heldN_bd i
  have G1 := Lib.hid (fixed_any (heldN i) (by omega))
  have G2 := Lib.hid (of_at (headA (heldN i)) (by rw [headA_size]; decide))
  have G3 := Lib.hid (fixed_any (moreN 0 (headA (heldN i))) (moreN_lt _ _))
  have HS := Lib.hid (show headA (heldN i) ++ ⟨(eigL (moreN 0 (headA (heldN i)))).toArray⟩ = headS (heldN i) from rfl)
  have HA := Lib.hid (show (⟨#[76, 65, 68, 69]⟩ : ByteArray) ++ ⟨(eigL (heldN i)).toArray⟩ ++ ⟨#[0, 0, 0, 0]⟩ = headA (heldN i) from rfl)
  have hx1 : (0 : Int) ≤ (heldN i : Int) := by omega
  have hx2 : (heldN i : Int) ≤ 99999999 := by omega
  have hs1 : (((⟨(eigL (heldN i)).toArray⟩ : ByteArray).size : Nat) : Int) ≤ 4 := by show ((4 : Nat) : Int) ≤ 4; omega
  have hs2 : (((⟨(eigL (moreN 0 (headA (heldN i)))).toArray⟩ : ByteArray).size : Nat) : Int) ≤ 4 := by show ((4 : Nat) : Int) ≤ 4; omega
  have hs3 : (((headA (heldN i)).size : Nat) : Int) ≤ 12 := by rw [headA_size]; omega
  generalize headS (heldN i) = s at *
  generalize headA (heldN i) = a at *
  generalize hm : moreN 0 a = m at *
  generalize heldN i = q at *
  generalize (⟨(eigL q).toArray⟩ : ByteArray) = e1 at *
  generalize (⟨(eigL m).toArray⟩ : ByteArray) = e2 at *
  clear hb hm
  unfold Gives
  go_enter Try.func48, Try.ntmps48
  go_wp2_with (first
    | (go_at_call 78; ((with_reducible refine (HH.out _).mono ?_); rintro e w1 ⟨rfl, rfl⟩))
    | (go_at_call 77; ((with_reducible refine (G1.out _).mono ?_); rintro e w1 ⟨rfl, hB1⟩))
    | (go_at_call 79; (rw [HA.out]; (with_reducible refine (G2.out _).mono ?_); rintro e w2 ⟨rfl, hB2⟩))
    | (go_at_call 77; ((with_reducible refine (G3.out _).mono ?_); rintro e w3 ⟨rfl, hB3⟩)))
  go_ret
  exact ⟨by rw [HS.out]; rfl, bel2 (bel2 hB1 hB2) hB3⟩

theorem headCheck_any (s : ByteArray) (hs : s.size ≤ 9223372036854775807) (i : Int) (w : World) : Gives Try.prog 27 #[.string s, .int .i64 i] w (.int .i64 (chkM s.data.toList (headS (heldN i)).data.toList)) := by
  have GB := Lib.hid (headBytes_any i)
  have G := Lib.hid (fun s p w => Try.strings_HasPrefix s p w)
  generalize headS (heldN i) = h at *
  unfold chkM
  cases h1 : Lib.hasPrefix s.data.toList h.data.toList <;> cases h2 : Lib.hasPrefix h.data.toList s.data.toList
  all_goals
    have HX := Lib.hid h1
    have HY := Lib.hid h2
    have G1 := Lib.hid (fun w => G.out s h w)
    have G2 := Lib.hid (fun w => G.out h s w)
    rw [h1] at G1
    rw [h2] at G2
    clear h1 h2
    unfold Gives
    go_enter Try.func27, Try.ntmps27
    go_wp2_with (first
      | (go_at_call 48; ((with_reducible refine (GB.out _).mono ?_); rintro e w1 ⟨rfl, hB1⟩))
      | (go_at_call 49; ((with_reducible refine (G1.out _).mono ?_); rintro e w2 ⟨rfl, rfl⟩))
      | (go_at_call 49; ((with_reducible refine (G2.out _).mono ?_); rintro e w2 ⟨rfl, rfl⟩)))
    go_ret
    exact ⟨rfl, hB1⟩

end Go.Proofs.Ytflaanffjjidaaa

/- The contracts of head.ID and of the document's names and heads (package laderef9); what the first law-calls of layer 10 find. -/
namespace Go.Proofs.Ytflaanffjjidaaa
open Go.RowKit Go.Shelf
set_option linter.unusedVariables false
attribute [local go_sem] Oper.semAt_some wide_fn wide_round_fn

theorem var_below {P : Program} {n : String} {w W : World} {cs : Array Value} (h : w.var? P n = some cs) (hB : Below w.heap.size w W) : W.var? P n = some cs := by
  unfold World.var? at h ⊢
  cases hg : P.globalNamed n with
  | none => simp [hg] at h
  | some g =>
    simp only [hg, Option.bind_some] at h ⊢
    have hlt : g < w.heap.size := by
      rcases Nat.lt_or_ge g w.heap.size with h' | h'
      · exact h'
      · simp [Array.getElem?_eq_none h'] at h
    rw [hB.block g hlt]; exact h
/-- The two sentinels of package strconv hold what they were given. -/
def VarsOk (w : World) : Prop := (∃ tp p, w.var? Try.prog "strconv.ErrSyntax" = some #[.iface tp p]) ∧ ∃ tp p, w.var? Try.prog "strconv.ErrRange" = some #[.iface tp p]
theorem VarsOk.below {w W : World} (h : VarsOk w) (hB : Below w.heap.size w W) : VarsOk W := by
  obtain ⟨⟨a, b, h1⟩, ⟨c, d, h2⟩⟩ := h
  exact ⟨⟨a, b, var_below h1 hB⟩, ⟨c, d, var_below h2 hB⟩⟩

/-! ### The document's -/
theorem heldN_eq2 (i : Int) : ((heldN i : Nat) : Int) = max 1 (min i 99999999) := by unfold heldN; omega
end Go.Proofs.Ytflaanffjjidaaa

/- The contracts of the document's ID, Head, Check (package laderef9). -/
namespace Go.Proofs.Ytflaanffjjidaaa
open Go.RowKit Go.Shelf
set_option linter.unusedVariables false
attribute [local go_sem] Oper.semAt_some wide_fn wide_round_fn

set_option maxRecDepth 100000 in
set_option maxHeartbeats 1000000 in
theorem refHead_any (i : Int) (w : World) : Gives Try.prog 24 #[.int .i64 i] w (.string (headS (heldN i))) := by
  have HH := Lib.hid (heldN_eq2 i)
  have hb := heldN_bd i
  have G1 := Lib.hid (refFixed_any (heldN i) (by omega))
  have G2 := Lib.hid (show ∀ w, Gives Try.prog 43 #[.int .u32 0, .string (headA (heldN i))] w (.int .u32 (moreN 0 (headA (heldN i)))) from fun w => refmore_at 0 (by decide) (headA (heldN i)) (by rw [headA_size]; decide) w)
  have G3 := Lib.hid (refFixed_any (moreN 0 (headA (heldN i))) (moreN_lt _ _))
  have HS := Lib.hid (show headA (heldN i) ++ ⟨(eigL (moreN 0 (headA (heldN i)))).toArray⟩ = headS (heldN i) from rfl)
  have HA := Lib.hid (show (⟨#[76, 65, 68, 69]⟩ : ByteArray) ++ ⟨(eigL (heldN i)).toArray⟩ ++ ⟨#[0, 0, 0, 0]⟩ = headA (heldN i) from rfl)
  have hx1 : (1 : Int) ≤ max 1 (min i 99999999) := by omega
  have hx2 : max 1 (min i 99999999) ≤ 99999999 := by omega
  have hs1 : (((⟨(eigL (heldN i)).toArray⟩ : ByteArray).size : Nat) : Int) ≤ 4 := by show ((4 : Nat) : Int) ≤ 4; omega
  have hs2 : (((⟨(eigL (moreN 0 (headA (heldN i)))).toArray⟩ : ByteArray).size : Nat) : Int) ≤ 4 := by show ((4 : Nat) : Int) ≤ 4; omega
  have hs3 : (((headA (heldN i)).size : Nat) : Int) ≤ 12 := by rw [headA_size]; omega
  generalize headS (heldN i) = s at *
  generalize headA (heldN i) = a at *
  generalize hm : moreN 0 a = m at *
  generalize heldN i = q at *
  rw [HH.out] at G1
  generalize (⟨(eigL q).toArray⟩ : ByteArray) = e1 at *
  generalize (⟨(eigL m).toArray⟩ : ByteArray) = e2 at *
  clear hb hm
  unfold Gives
  go_enter Try.func24, Try.ntmps24
  go_wp2_with (first
    | (go_at_call 42; ((with_reducible refine (G1.out _).mono ?_); rintro e w1 ⟨rfl, hB1⟩))
    | (go_at_call 43; (rw [HA.out]; (with_reducible refine (G2.out _).mono ?_); rintro e w2 ⟨rfl, hB2⟩))
    | (go_at_call 42; ((with_reducible refine (G3.out _).mono ?_); rintro e w3 ⟨rfl, hB3⟩)))
  go_ret
  exact ⟨by rw [HS.out]; rfl, bel2 (bel2 hB1 hB2) hB3⟩

/-! ### Check -/
theorem pre_len {a b : List UInt8} (h : Lib.hasPrefix a b = true) : b.length ≤ a.length := by
  unfold Lib.hasPrefix at h; exact (List.isPrefixOf_iff_prefix.1 h).length_le
theorem hchk_bad {s h : List UInt8} (hx : s.take (min s.length h.length) ≠ h.take (min s.length h.length)) : chkM s h = 4 := by
  unfold chkM
  rw [if_neg, if_neg]
  · intro e
    obtain ⟨t, rfl⟩ := List.isPrefixOf_iff_prefix.1 e
    apply hx; simp
  · intro e
    obtain ⟨t, rfl⟩ := List.isPrefixOf_iff_prefix.1 e
    apply hx; simp
theorem hchk_torn {s h : List UInt8} (hx : s.take (min s.length h.length) = h.take (min s.length h.length)) (hl : s.length < h.length) : chkM s h = 3 := by
  rw [Nat.min_eq_left (by omega), List.take_length] at hx
  unfold chkM
  rw [if_neg, if_pos]
  · exact List.isPrefixOf_iff_prefix.2 (hx ▸ List.take_prefix _ _)
  · intro e; have := pre_len e; omega
theorem hchk_whole {s h : List UInt8} (hx : s.take (min s.length h.length) = h.take (min s.length h.length)) (hl : h.length ≤ s.length) : chkM s h = 1 := by
  rw [Nat.min_eq_right hl, List.take_length] at hx
  unfold chkM
  rw [if_pos]
  exact List.isPrefixOf_iff_prefix.2 (hx ▸ List.take_prefix _ _)
end Go.Proofs.Ytflaanffjjidaaa
