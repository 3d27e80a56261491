/- What the first layer's laws hold by themselves: the examples. -/
import Derived.Test.YtcchbpjkejklaaaRefGet
namespace Go.Proofs.Ytcchbpjkejklaaa
open Go.RowKit Go.Shelf
set_option linter.unusedVariables false

theorem get_at (s : ByteArray) (a b c : Nat) (hs : s.size < 9223372036854775808) (h : getL s.data.toList = (a, b, c)) (w : World) : Gives Try.prog 16 #[.string s] w (.tuple #[.int .i64 a, .int .i64 b, .int .i64 c]) := by
  have := get_any s hs w
  rwa [h] at this
theorem texts_at (s : ByteArray) (most : Int) (t : ByteArray) (b c : Nat) (hs : s.size < 9223372036854775808) (h : textsB s most = (t, b, c)) (w : World) : Gives Try.prog 18 #[.string s, .int .i64 most] w (.tuple #[.string t, .int .i64 b, .int .i64 c]) := by
  have := texts_any s hs most w
  rwa [h] at this
theorem put_at (n : Int) (l : List UInt8) (hn : n < 9223372036854775808) (h : sevL n.toNat = l) (w : World) : Gives Try.prog 22 #[.int .i64 n] w (.string ⟨l.toArray⟩) := by
  have := put_any n hn w
  rwa [h] at this
theorem fix_at (s : ByteArray) (n : Nat) (hs : 4 ≤ s.size) (hm : s.size < 9223372036854775808) (h : leN (s.data.toList.take 4) = n) (w : World) : Gives Try.prog 20 #[.string s] w (.tuple #[.int .u32 n, .int .i64 0]) := by
  have := fix_ok s hs hm w
  rwa [h] at this
theorem fixed_at (n : Int) (l : List UInt8) (h0 : 0 ≤ n) (hn : n < 4294967296) (h : eigL n.toNat = l) (w : World) : Gives Try.prog 26 #[.int .u32 n] w (.string ⟨l.toArray⟩) := by
  have := fixed_any n.toNat (by omega) w
  rwa [h, Int.toNat_of_nonneg h0] at this
theorem text_at (s t : ByteArray) (hs : s.size + 9 < 9223372036854775808) (h : (⟨(sevL s.size).toArray⟩ ++ s : ByteArray) = t) (w : World) : Gives Try.prog 24 #[.string s] w (.string t) := by
  have := text_any s hs w
  rwa [h] at this

set_option maxRecDepth 100000 in
set_option maxHeartbeats 2000000 in
theorem code_known (w : World) : Gives Try.prog 15 #[] w (.bool true) := by
  have g1 := get_at ⟨#[172, 2, 120]⟩ 300 2 0 (by decide) (by decide)
  have g2 := get_at ⟨#[128]⟩ 0 0 10 (by decide) (by decide)
  have g3 := get_at ⟨#[128, 0]⟩ 0 0 11 (by decide) (by decide)
  have t1 := texts_at ⟨#[2, 97, 98, 99]⟩ 5 ⟨#[97, 98]⟩ 3 0 (by decide) (by decide)
  have t2 := texts_at ⟨#[2, 97, 98, 99]⟩ 1 ⟨#[]⟩ 0 12 (by decide) (by decide)
  have f1 := fix_at ⟨#[1, 2, 0, 0, 120]⟩ 513 (by decide) (by decide) (by decide)
  have f2 := fix_short ⟨#[97, 98, 99]⟩ (by decide)
  have p1 := put_at 300 [172, 2] (by decide) (by decide)
  have p2 := put_at (-5) [0] (by decide) (by decide)
  have x1 := text_at ⟨#[97, 98]⟩ ⟨#[2, 97, 98]⟩ (by decide) (by decide)
  have d1 := fixed_at 513 [1, 2, 0, 0] (by decide) (by decide) (by decide)
  have G1 := Lib.hid g1; have G2 := Lib.hid g2; have G3 := Lib.hid g3; have T1 := Lib.hid t1; have T2 := Lib.hid t2; have F1 := Lib.hid f1; have F2 := Lib.hid f2
  have P1 := Lib.hid p1; have P2 := Lib.hid p2; have X1 := Lib.hid x1; have D1 := Lib.hid d1
  clear g1 g2 g3 t1 t2 f1 f2 p1 p2 x1 d1
  unfold Gives
  go_enter Try.func15, Try.ntmps15
  go_wp2_with (first
    | (go_at_call 16; ((with_reducible refine (G1.out _).mono ?_); rintro e w1 ⟨rfl, hB1⟩))
    | (go_at_call 16; ((with_reducible refine (G2.out _).mono ?_); rintro e w2 ⟨rfl, hB2⟩))
    | (go_at_call 16; ((with_reducible refine (G3.out _).mono ?_); rintro e w3 ⟨rfl, hB3⟩))
    | (go_at_call 18; ((with_reducible refine (T1.out _).mono ?_); rintro e w4 ⟨rfl, hB4⟩))
    | (go_at_call 18; ((with_reducible refine (T2.out _).mono ?_); rintro e w5 ⟨rfl, hB5⟩))
    | (go_at_call 20; ((with_reducible refine (F1.out _).mono ?_); rintro e w6 ⟨rfl, hB6⟩))
    | (go_at_call 20; ((with_reducible refine (F2.out _).mono ?_); rintro e w7 ⟨rfl, hB7⟩))
    | (go_at_call 22; ((with_reducible refine (P1.out _).mono ?_); rintro e w8 ⟨rfl, hB8⟩))
    | (go_at_call 24; ((with_reducible refine (X1.out _).mono ?_); rintro e w9 ⟨rfl, hB9⟩))
    | (go_at_call 26; ((with_reducible refine (D1.out _).mono ?_); rintro e w10 ⟨rfl, hB10⟩))
    | (go_at_call 22; ((with_reducible refine (P2.out _).mono ?_); rintro e w11 ⟨rfl, hB11⟩)))
  go_ret
  exact ⟨rfl, bel2 (bel2 (bel2 (bel2 (bel2 (bel2 (bel2 (bel2 (bel2 (bel2 hB1 hB2) hB3) hB4) hB5) hB6) hB7) hB8) hB9) hB10) hB11⟩

end Go.Proofs.Ytcchbpjkejklaaa
