/- The contract of part.Read. -/
import Derived.Test.YtpogklceaoiacaaRead0
import Derived.Test.YtpogklceaoiacaaRead1
import Derived.Test.YtpogklceaoiacaaRead2
import Derived.Test.YtpogklceaoiacaaRead3
import Derived.Test.YtpogklceaoiacaaRead6
namespace Go.Proofs.Ytpogklceaoiacaa
open Go.RowKit Go.Shelf
set_option linter.unusedVariables false

theorem partRead_any (s : ByteArray) (hs : s.size < 4611686018427387904) (w : World) : Calls Try.prog 25 #[.string s] w (ReadPost s w) := by
  have h := numTo_le s 6 (numM s ⟨0, 0⟩).2
  rcases (by omega : (numTo s 6 (numM s ⟨0, 0⟩).2).1 = 0 ∨ (numTo s 6 (numM s ⟨0, 0⟩).2).1 = 1 ∨ (numTo s 6 (numM s ⟨0, 0⟩).2).1 = 2 ∨ (numTo s 6 (numM s ⟨0, 0⟩).2).1 = 3 ∨ (numTo s 6 (numM s ⟨0, 0⟩).2).1 = 4 ∨ (numTo s 6 (numM s ⟨0, 0⟩).2).1 = 5 ∨ (numTo s 6 (numM s ⟨0, 0⟩).2).1 = 6) with h | h | h | h | h | h | h
  · exact read0_any s hs w h
  · exact read1_any s hs w h
  · exact read2_any s hs w h
  · exact read3_any s hs w h
  · exact read4_any s hs w h
  · exact read5_any s hs w h
  · exact read6_any s hs w h

end Go.Proofs.Ytpogklceaoiacaa
