/- The contract of part's reader.forward, whatever its flag. -/
import Derived.Test.YtpogklceaoiacaaFwd1
import Derived.Test.YtpogklceaoiacaaFwd2
import Derived.Test.YtpogklceaoiacaaFwd3
namespace Go.Proofs.Ytpogklceaoiacaa
open Go.RowKit Go.Shelf
set_option linter.unusedVariables false

theorem forward_any (b X : Nat) (s : ByteArray) (hs : s.size < 4611686018427387904) (st0 : RSt) (hok0 : st0.ok s) (g : Int) (hXb : X ≠ b) (w : World) (hb : RdAt b s st0 w)
    (hp : w.heap[X]? = some (.cells #[.int .i64 g, .int .i64 6, .slice none 0 0, .int .i64 0, .int .i64 0, .int .i64 0, .int .i64 0, .int .i64 0, .bool false, .bool false] 26 (0, 0))) :
    Calls Try.prog 66 #[.pointer (some ⟨b, 0, none⟩), .pointer (some ⟨X, 0, none⟩)] w (FwdPost b X s g st0 w) := by
  have h3 := numTo_le s 3 st0
  rcases (by omega : (numTo s 3 st0).1 = 0 ∨ (numTo s 3 st0).1 = 1 ∨ (numTo s 3 st0).1 = 2 ∨ (numTo s 3 st0).1 = 3) with h | h | h | h
  · exact forward0_any b X s hs st0 hok0 h g hXb w hb hp
  · exact forward1_any b X s hs st0 hok0 h g hXb w hb hp
  · exact forward2_any b X s hs st0 hok0 h g hXb w hb hp
  · exact forward3_any b X s hs st0 hok0 h g hXb w hb hp
theorem fwdM_len (s : ByteArray) (g : Int) (st : RSt) : (fwdM s g st).1.l.length ≤ 6 := by
  unfold fwdM
  exact Nat.le_trans (entM_len _ _ _) (numTo_le _ _ _)
theorem fwdM_kind (s : ByteArray) (g : Int) (st : RSt) : (fwdM s g st).1.k = 6 ∧ (fwdM s g st).1.g = g := ⟨rfl, rfl⟩

end Go.Proofs.Ytpogklceaoiacaa
