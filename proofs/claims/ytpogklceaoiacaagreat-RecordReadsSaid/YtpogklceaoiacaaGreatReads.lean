/- Slices that came in, read as lists: of integers, of strings. -/
import Derived.Test.YtpogklceaoiacaaGreatLaw
import Derived.Test.YtpogklceaoiacaaGreatKit
namespace Go.Proofs.YtpogklceaoiacaaGreat
open Go.RowKit Go.Shelf
set_option linter.unusedVariables false

theorem block_of_cell {w:World} {a:Addr} {v:Value} (h:w.cell? a=some v):a.block<w.heap.size:=by
 obtain ⟨o,ho,_⟩:=isCells_of_cell h
 exact (Array.getElem?_eq_some_iff.1 ho).1
theorem add_off (b off i:Nat):(⟨b,off,none⟩:Addr).add i=⟨b,off+i,none⟩:=by
 unfold Addr.add
 split
 ·rename_i h;subst h;rfl
 ·rfl

end Go.Proofs.YtpogklceaoiacaaGreat
