/-
  No cell of these rows narrows 'for every input' (looked for: loops, veiled, ifaces, maps, wideKeys, modest, calm, conditions, laid).
  DERIVED. THE GIVEN ROWS OF THIS SEAT. 12 by the template 'for every input the law returns true; each argument reads behind the call as it read before'; 0 by the template 'total and deterministic' (their statements: YtpogklceaoiacaaTotals.lean).
  GIVEN WITH THE SEED: the statements are not yours to turn. If you find one false, say at which input.
  Laid BY PROGRAM, IN A SANDBOX (cutbox-rows.mjs): the forced cells as the released guide's own fill.sh prints them over the translation 2be61847f5cb40e4… (all of the seat's roots in one cut). By AI agents, Wed Nov 11 2026. No macro, syntax, notation, axiom, sorry.
-/
import Derived.Test.YtpogklceaoiacaaChecked
import GoSem.Claim
import GoSem.ClaimJoined
import GoSem.ClaimMapViews
import Derived.JoinedTies
import Derived.KernelRfl
namespace Go.Proofs.Ytpogklceaoiacaa
/- THE CELL 'sum', in the pinned program and in every row, IS THE sha256 OF THE DUMP (.gsa) THAT YtpogklceaoiacaaProg.lean LOADS. Nothing in Lean hashes anything: it is a label: what it is worth is what the hold of that sum in a sandbox is worth. -/
noncomputable def Try.pinned : Pinned := { name := "ytpogklceaoiacaa", sum := "2be61847f5cb40e4ebb8c64e22a3840337a4c7303598f296f52b6097f7d57ebc", checked := Try.checked }
namespace Rows
def none {H : Type} : Left H := { results := [], args := [] }

/-- 'ladelaw4.PartTells': WHATEVER THE INPUT: true; the input reads as it did. -/
def partTellsSpec : ChangeSpec := { name := "partTells", fn := fun _ => fun
  | [d1, d2, d3] => { results := [.lit (.bool true)], args := [d1, d2, d3] }
  | _ => none }
def partTellsRow : OpenClaim := { program := "ytpogklceaoiacaa", sum := "2be61847f5cb40e4ebb8c64e22a3840337a4c7303598f296f52b6097f7d57ebc", func := "lade/ladelaw4.PartTells", spec := "partTells", inPlace := ["internal/abi.NoEscape"], unfollowed := true, recurses := true, apart := false }
def PartTellsSaid : Prop := partTellsRow.holds Try.pinned (OpenSpec.ofChange partTellsSpec)

/-- ITS FALSE NEIGHBOUR: 'it returns false'. Refute it at one input. -/
def partTellsWrong : ChangeSpec := { name := "partTells", fn := fun _ => fun
  | [d1, d2, d3] => { results := [.lit (.bool false)], args := [d1, d2, d3] }
  | _ => none }
def PartTellsWrongFalsely : Prop := partTellsRow.holds Try.pinned (OpenSpec.ofChange partTellsWrong)

/-- 'ladelaw4.PartReads': WHATEVER THE INPUT: true; the input reads as it did. -/
def partReadsSpec : ChangeSpec := { name := "partReads", fn := fun _ => fun
  | [d] => { results := [.lit (.bool true)], args := [d] }
  | _ => none }
def partReadsRow : OpenClaim := { program := "ytpogklceaoiacaa", sum := "2be61847f5cb40e4ebb8c64e22a3840337a4c7303598f296f52b6097f7d57ebc", func := "lade/ladelaw4.PartReads", spec := "partReads", inPlace := ["internal/abi.NoEscape"], unfollowed := true, recurses := true, apart := false }
def PartReadsSaid : Prop := partReadsRow.holds Try.pinned (OpenSpec.ofChange partReadsSpec)

/-- ITS FALSE NEIGHBOUR: 'it returns false'. Refute it at one input. -/
def partReadsWrong : ChangeSpec := { name := "partReads", fn := fun _ => fun
  | [d] => { results := [.lit (.bool false)], args := [d] }
  | _ => none }
def PartReadsWrongFalsely : Prop := partReadsRow.holds Try.pinned (OpenSpec.ofChange partReadsWrong)

/-- 'ladelaw4.PartBack': WHATEVER THE INPUT: true; the input reads as it did. -/
def partBackSpec : ChangeSpec := { name := "partBack", fn := fun _ => fun
  | [d1, d2, d3, d4] => { results := [.lit (.bool true)], args := [d1, d2, d3, d4] }
  | _ => none }
def partBackRow : OpenClaim := { program := "ytpogklceaoiacaa", sum := "2be61847f5cb40e4ebb8c64e22a3840337a4c7303598f296f52b6097f7d57ebc", func := "lade/ladelaw4.PartBack", spec := "partBack", inPlace := ["internal/abi.NoEscape"], unfollowed := true, recurses := true, apart := false }
def PartBackSaid : Prop := partBackRow.holds Try.pinned (OpenSpec.ofChange partBackSpec)

/-- ITS FALSE NEIGHBOUR: 'it returns false'. Refute it at one input. -/
def partBackWrong : ChangeSpec := { name := "partBack", fn := fun _ => fun
  | [d1, d2, d3, d4] => { results := [.lit (.bool false)], args := [d1, d2, d3, d4] }
  | _ => none }
def PartBackWrongFalsely : Prop := partBackRow.holds Try.pinned (OpenSpec.ofChange partBackWrong)

/-- 'ladelaw4.PartSpoils': WHATEVER THE INPUT: true; the input reads as it did. -/
def partSpoilsSpec : ChangeSpec := { name := "partSpoils", fn := fun _ => fun
  | [d1, d2] => { results := [.lit (.bool true)], args := [d1, d2] }
  | _ => none }
def partSpoilsRow : OpenClaim := { program := "ytpogklceaoiacaa", sum := "2be61847f5cb40e4ebb8c64e22a3840337a4c7303598f296f52b6097f7d57ebc", func := "lade/ladelaw4.PartSpoils", spec := "partSpoils", inPlace := ["internal/abi.NoEscape"], unfollowed := true, recurses := true, apart := false }
def PartSpoilsSaid : Prop := partSpoilsRow.holds Try.pinned (OpenSpec.ofChange partSpoilsSpec)

/-- ITS FALSE NEIGHBOUR: 'it returns false'. Refute it at one input. -/
def partSpoilsWrong : ChangeSpec := { name := "partSpoils", fn := fun _ => fun
  | [d1, d2] => { results := [.lit (.bool false)], args := [d1, d2] }
  | _ => none }
def PartSpoilsWrongFalsely : Prop := partSpoilsRow.holds Try.pinned (OpenSpec.ofChange partSpoilsWrong)

/-- 'ladelaw4.PartRows': WHATEVER THE INPUT: true; the input reads as it did. -/
def partRowsSpec : ChangeSpec := { name := "partRows", fn := fun _ => fun
  | [d] => { results := [.lit (.bool true)], args := [d] }
  | _ => none }
def partRowsRow : OpenClaim := { program := "ytpogklceaoiacaa", sum := "2be61847f5cb40e4ebb8c64e22a3840337a4c7303598f296f52b6097f7d57ebc", func := "lade/ladelaw4.PartRows", spec := "partRows", inPlace := ["internal/abi.NoEscape"], unfollowed := true, recurses := true, apart := false }
def PartRowsSaid : Prop := partRowsRow.holds Try.pinned (OpenSpec.ofChange partRowsSpec)

/-- ITS FALSE NEIGHBOUR: 'it returns false'. Refute it at one input. -/
def partRowsWrong : ChangeSpec := { name := "partRows", fn := fun _ => fun
  | [d] => { results := [.lit (.bool false)], args := [d] }
  | _ => none }
def PartRowsWrongFalsely : Prop := partRowsRow.holds Try.pinned (OpenSpec.ofChange partRowsWrong)

/-- 'ladelaw4.PartSizes': WHATEVER THE INPUT: true; the input reads as it did. -/
def partSizesSpec : ChangeSpec := { name := "partSizes", fn := fun _ => fun
  | [d1, d2, d3] => { results := [.lit (.bool true)], args := [d1, d2, d3] }
  | _ => none }
def partSizesRow : OpenClaim := { program := "ytpogklceaoiacaa", sum := "2be61847f5cb40e4ebb8c64e22a3840337a4c7303598f296f52b6097f7d57ebc", func := "lade/ladelaw4.PartSizes", spec := "partSizes", inPlace := ["internal/abi.NoEscape"], unfollowed := true, recurses := true, apart := false }
def PartSizesSaid : Prop := partSizesRow.holds Try.pinned (OpenSpec.ofChange partSizesSpec)

/-- ITS FALSE NEIGHBOUR: 'it returns false'. Refute it at one input. -/
def partSizesWrong : ChangeSpec := { name := "partSizes", fn := fun _ => fun
  | [d1, d2, d3] => { results := [.lit (.bool false)], args := [d1, d2, d3] }
  | _ => none }
def PartSizesWrongFalsely : Prop := partSizesRow.holds Try.pinned (OpenSpec.ofChange partSizesWrong)

/-- 'ladelaw4.PartFlags': WHATEVER THE INPUT: true; the input reads as it did. -/
def partFlagsSpec : ChangeSpec := { name := "partFlags", fn := fun _ => fun
  | [d1, d2, d3, d4] => { results := [.lit (.bool true)], args := [d1, d2, d3, d4] }
  | _ => none }
def partFlagsRow : OpenClaim := { program := "ytpogklceaoiacaa", sum := "2be61847f5cb40e4ebb8c64e22a3840337a4c7303598f296f52b6097f7d57ebc", func := "lade/ladelaw4.PartFlags", spec := "partFlags", inPlace := ["internal/abi.NoEscape"], unfollowed := true, recurses := true, apart := false }
def PartFlagsSaid : Prop := partFlagsRow.holds Try.pinned (OpenSpec.ofChange partFlagsSpec)

/-- ITS FALSE NEIGHBOUR: 'it returns false'. Refute it at one input. -/
def partFlagsWrong : ChangeSpec := { name := "partFlags", fn := fun _ => fun
  | [d1, d2, d3, d4] => { results := [.lit (.bool false)], args := [d1, d2, d3, d4] }
  | _ => none }
def PartFlagsWrongFalsely : Prop := partFlagsRow.holds Try.pinned (OpenSpec.ofChange partFlagsWrong)

/-- 'ladelaw5.RecordTells': WHATEVER THE INPUT: true; the input reads as it did. -/
def recordTellsSpec : ChangeSpec := { name := "recordTells", fn := fun _ => fun
  | [d1, d2] => { results := [.lit (.bool true)], args := [d1, d2] }
  | _ => none }
def recordTellsRow : OpenClaim := { program := "ytpogklceaoiacaa", sum := "2be61847f5cb40e4ebb8c64e22a3840337a4c7303598f296f52b6097f7d57ebc", func := "lade/ladelaw5.RecordTells", spec := "recordTells", inPlace := ["internal/abi.NoEscape"], unfollowed := true, recurses := true, apart := false }
def RecordTellsSaid : Prop := recordTellsRow.holds Try.pinned (OpenSpec.ofChange recordTellsSpec)

/-- ITS FALSE NEIGHBOUR: 'it returns false'. Refute it at one input. -/
def recordTellsWrong : ChangeSpec := { name := "recordTells", fn := fun _ => fun
  | [d1, d2] => { results := [.lit (.bool false)], args := [d1, d2] }
  | _ => none }
def RecordTellsWrongFalsely : Prop := recordTellsRow.holds Try.pinned (OpenSpec.ofChange recordTellsWrong)

/-- 'ladelaw5.RecordBack': WHATEVER THE INPUT: true; the input reads as it did. -/
def recordBackSpec : ChangeSpec := { name := "recordBack", fn := fun _ => fun
  | [d1, d2, d3, d4] => { results := [.lit (.bool true)], args := [d1, d2, d3, d4] }
  | _ => none }
def recordBackRow : OpenClaim := { program := "ytpogklceaoiacaa", sum := "2be61847f5cb40e4ebb8c64e22a3840337a4c7303598f296f52b6097f7d57ebc", func := "lade/ladelaw5.RecordBack", spec := "recordBack", inPlace := ["internal/abi.NoEscape"], unfollowed := true, recurses := true, apart := false }
def RecordBackSaid : Prop := recordBackRow.holds Try.pinned (OpenSpec.ofChange recordBackSpec)

/-- ITS FALSE NEIGHBOUR: 'it returns false'. Refute it at one input. -/
def recordBackWrong : ChangeSpec := { name := "recordBack", fn := fun _ => fun
  | [d1, d2, d3, d4] => { results := [.lit (.bool false)], args := [d1, d2, d3, d4] }
  | _ => none }
def RecordBackWrongFalsely : Prop := recordBackRow.holds Try.pinned (OpenSpec.ofChange recordBackWrong)

/-- 'ladelaw5.RecordMixed': WHATEVER THE INPUT: true; the input reads as it did. -/
def recordMixedSpec : ChangeSpec := { name := "recordMixed", fn := fun _ => fun
  | [d1, d2] => { results := [.lit (.bool true)], args := [d1, d2] }
  | _ => none }
def recordMixedRow : OpenClaim := { program := "ytpogklceaoiacaa", sum := "2be61847f5cb40e4ebb8c64e22a3840337a4c7303598f296f52b6097f7d57ebc", func := "lade/ladelaw5.RecordMixed", spec := "recordMixed", inPlace := ["internal/abi.NoEscape"], unfollowed := true, recurses := true, apart := false }
def RecordMixedSaid : Prop := recordMixedRow.holds Try.pinned (OpenSpec.ofChange recordMixedSpec)

/-- ITS FALSE NEIGHBOUR: 'it returns false'. Refute it at one input. -/
def recordMixedWrong : ChangeSpec := { name := "recordMixed", fn := fun _ => fun
  | [d1, d2] => { results := [.lit (.bool false)], args := [d1, d2] }
  | _ => none }
def RecordMixedWrongFalsely : Prop := recordMixedRow.holds Try.pinned (OpenSpec.ofChange recordMixedWrong)

/-- 'ladelaw5.RecordBig': WHATEVER THE INPUT: true; the input reads as it did. -/
def recordBigSpec : ChangeSpec := { name := "recordBig", fn := fun _ => fun
  | [d1, d2] => { results := [.lit (.bool true)], args := [d1, d2] }
  | _ => none }
def recordBigRow : OpenClaim := { program := "ytpogklceaoiacaa", sum := "2be61847f5cb40e4ebb8c64e22a3840337a4c7303598f296f52b6097f7d57ebc", func := "lade/ladelaw5.RecordBig", spec := "recordBig", inPlace := ["internal/abi.NoEscape"], unfollowed := true, recurses := true, apart := false }
def RecordBigSaid : Prop := recordBigRow.holds Try.pinned (OpenSpec.ofChange recordBigSpec)

/-- ITS FALSE NEIGHBOUR: 'it returns false'. Refute it at one input. -/
def recordBigWrong : ChangeSpec := { name := "recordBig", fn := fun _ => fun
  | [d1, d2] => { results := [.lit (.bool false)], args := [d1, d2] }
  | _ => none }
def RecordBigWrongFalsely : Prop := recordBigRow.holds Try.pinned (OpenSpec.ofChange recordBigWrong)

/-- 'ladelaw5.RecordRows': WHATEVER THE INPUT: true; the input reads as it did. -/
def recordRowsSpec : ChangeSpec := { name := "recordRows", fn := fun _ => fun
  | [d1, d2, d3] => { results := [.lit (.bool true)], args := [d1, d2, d3] }
  | _ => none }
def recordRowsRow : OpenClaim := { program := "ytpogklceaoiacaa", sum := "2be61847f5cb40e4ebb8c64e22a3840337a4c7303598f296f52b6097f7d57ebc", func := "lade/ladelaw5.RecordRows", spec := "recordRows", inPlace := ["internal/abi.NoEscape"], unfollowed := true, recurses := true, apart := false }
def RecordRowsSaid : Prop := recordRowsRow.holds Try.pinned (OpenSpec.ofChange recordRowsSpec)

/-- ITS FALSE NEIGHBOUR: 'it returns false'. Refute it at one input. -/
def recordRowsWrong : ChangeSpec := { name := "recordRows", fn := fun _ => fun
  | [d1, d2, d3] => { results := [.lit (.bool false)], args := [d1, d2, d3] }
  | _ => none }
def RecordRowsWrongFalsely : Prop := recordRowsRow.holds Try.pinned (OpenSpec.ofChange recordRowsWrong)

/- THE SECOND FORM. 'bulk': how many values and letters a reading holds, each counted each time it is reached (what is shared counts as often as it is met; a slice's spare places count too). A statement '..UptoSaid' is the law's where the arguments, and the package variables that the reading takes, are together of bulk at most 1048576: NARROWER than '..Said'. Prove '..Said' where nothing that the law and all that it calls make is longer than what came in: it says more and counts as full. Else prove '..UptoSaid'. A law counts once. -/
mutual
def uptoBulk {H : Type} : DataW H → Nat
  | .lit (.string bytes) => bytes.length + 1
  | .lit _ => 1
  | .nil => 1
  | .ptr d => uptoBulk d + 1
  | .slice elems spare => uptoBulkAll elems + uptoBulkAll spare + 1
  | .agg parts => uptoBulkAll parts + 1
  | .iface _ d => uptoBulk d + 1
  | .map entries => uptoBulkEntries entries + 1
  | .held _ => 1
def uptoBulkAll {H : Type} : List (DataW H) → Nat
  | [] => 0
  | d :: r => uptoBulk d + uptoBulkAll r
def uptoBulkEntries {H : Type} : List (Lit × DataW H) → Nat
  | [] => 0
  | x :: r => uptoBulkEntry x + uptoBulkEntries r
def uptoBulkEntry {H : Type} : Lit × DataW H → Nat
  | (.string bytes, d) => bytes.length + uptoBulk d + 1
  | (_, d) => uptoBulk d + 1
 end
def uptoSmall : (H : Type) → List (DataW H) → Bool := fun _ ds => decide (uptoBulkAll ds ≤ 1048576)
def OpenSpec.upto (s : _root_.Go.ChangeSpec) : _root_.Go.OpenSpec := { _root_.Go.OpenSpec.ofChange s with cond := some uptoSmall }

/-- 'ladelaw4.PartTells', WHERE WHAT IT READS IS OF BULK AT MOST 1048576: true; the input reads as it did. -/
def partTellsUptoRow : OpenClaim := { program := "ytpogklceaoiacaa", sum := "2be61847f5cb40e4ebb8c64e22a3840337a4c7303598f296f52b6097f7d57ebc", func := "lade/ladelaw4.PartTells", spec := "partTells", inPlace := ["internal/abi.NoEscape"], unfollowed := true, recurses := true, apart := false, narrowed := true }
def PartTellsUptoSaid : Prop := partTellsUptoRow.holds Try.pinned (OpenSpec.upto partTellsSpec)

/-- 'ladelaw4.PartReads', WHERE WHAT IT READS IS OF BULK AT MOST 1048576: true; the input reads as it did. -/
def partReadsUptoRow : OpenClaim := { program := "ytpogklceaoiacaa", sum := "2be61847f5cb40e4ebb8c64e22a3840337a4c7303598f296f52b6097f7d57ebc", func := "lade/ladelaw4.PartReads", spec := "partReads", inPlace := ["internal/abi.NoEscape"], unfollowed := true, recurses := true, apart := false, narrowed := true }
def PartReadsUptoSaid : Prop := partReadsUptoRow.holds Try.pinned (OpenSpec.upto partReadsSpec)

/-- 'ladelaw4.PartBack', WHERE WHAT IT READS IS OF BULK AT MOST 1048576: true; the input reads as it did. -/
def partBackUptoRow : OpenClaim := { program := "ytpogklceaoiacaa", sum := "2be61847f5cb40e4ebb8c64e22a3840337a4c7303598f296f52b6097f7d57ebc", func := "lade/ladelaw4.PartBack", spec := "partBack", inPlace := ["internal/abi.NoEscape"], unfollowed := true, recurses := true, apart := false, narrowed := true }
def PartBackUptoSaid : Prop := partBackUptoRow.holds Try.pinned (OpenSpec.upto partBackSpec)

/-- 'ladelaw4.PartSpoils', WHERE WHAT IT READS IS OF BULK AT MOST 1048576: true; the input reads as it did. -/
def partSpoilsUptoRow : OpenClaim := { program := "ytpogklceaoiacaa", sum := "2be61847f5cb40e4ebb8c64e22a3840337a4c7303598f296f52b6097f7d57ebc", func := "lade/ladelaw4.PartSpoils", spec := "partSpoils", inPlace := ["internal/abi.NoEscape"], unfollowed := true, recurses := true, apart := false, narrowed := true }
def PartSpoilsUptoSaid : Prop := partSpoilsUptoRow.holds Try.pinned (OpenSpec.upto partSpoilsSpec)

/-- 'ladelaw4.PartRows', WHERE WHAT IT READS IS OF BULK AT MOST 1048576: true; the input reads as it did. -/
def partRowsUptoRow : OpenClaim := { program := "ytpogklceaoiacaa", sum := "2be61847f5cb40e4ebb8c64e22a3840337a4c7303598f296f52b6097f7d57ebc", func := "lade/ladelaw4.PartRows", spec := "partRows", inPlace := ["internal/abi.NoEscape"], unfollowed := true, recurses := true, apart := false, narrowed := true }
def PartRowsUptoSaid : Prop := partRowsUptoRow.holds Try.pinned (OpenSpec.upto partRowsSpec)

/-- 'ladelaw4.PartSizes', WHERE WHAT IT READS IS OF BULK AT MOST 1048576: true; the input reads as it did. -/
def partSizesUptoRow : OpenClaim := { program := "ytpogklceaoiacaa", sum := "2be61847f5cb40e4ebb8c64e22a3840337a4c7303598f296f52b6097f7d57ebc", func := "lade/ladelaw4.PartSizes", spec := "partSizes", inPlace := ["internal/abi.NoEscape"], unfollowed := true, recurses := true, apart := false, narrowed := true }
def PartSizesUptoSaid : Prop := partSizesUptoRow.holds Try.pinned (OpenSpec.upto partSizesSpec)

/-- 'ladelaw4.PartFlags', WHERE WHAT IT READS IS OF BULK AT MOST 1048576: true; the input reads as it did. -/
def partFlagsUptoRow : OpenClaim := { program := "ytpogklceaoiacaa", sum := "2be61847f5cb40e4ebb8c64e22a3840337a4c7303598f296f52b6097f7d57ebc", func := "lade/ladelaw4.PartFlags", spec := "partFlags", inPlace := ["internal/abi.NoEscape"], unfollowed := true, recurses := true, apart := false, narrowed := true }
def PartFlagsUptoSaid : Prop := partFlagsUptoRow.holds Try.pinned (OpenSpec.upto partFlagsSpec)

/-- 'ladelaw5.RecordTells', WHERE WHAT IT READS IS OF BULK AT MOST 1048576: true; the input reads as it did. -/
def recordTellsUptoRow : OpenClaim := { program := "ytpogklceaoiacaa", sum := "2be61847f5cb40e4ebb8c64e22a3840337a4c7303598f296f52b6097f7d57ebc", func := "lade/ladelaw5.RecordTells", spec := "recordTells", inPlace := ["internal/abi.NoEscape"], unfollowed := true, recurses := true, apart := false, narrowed := true }
def RecordTellsUptoSaid : Prop := recordTellsUptoRow.holds Try.pinned (OpenSpec.upto recordTellsSpec)

/-- 'ladelaw5.RecordBack', WHERE WHAT IT READS IS OF BULK AT MOST 1048576: true; the input reads as it did. -/
def recordBackUptoRow : OpenClaim := { program := "ytpogklceaoiacaa", sum := "2be61847f5cb40e4ebb8c64e22a3840337a4c7303598f296f52b6097f7d57ebc", func := "lade/ladelaw5.RecordBack", spec := "recordBack", inPlace := ["internal/abi.NoEscape"], unfollowed := true, recurses := true, apart := false, narrowed := true }
def RecordBackUptoSaid : Prop := recordBackUptoRow.holds Try.pinned (OpenSpec.upto recordBackSpec)

/-- 'ladelaw5.RecordMixed', WHERE WHAT IT READS IS OF BULK AT MOST 1048576: true; the input reads as it did. -/
def recordMixedUptoRow : OpenClaim := { program := "ytpogklceaoiacaa", sum := "2be61847f5cb40e4ebb8c64e22a3840337a4c7303598f296f52b6097f7d57ebc", func := "lade/ladelaw5.RecordMixed", spec := "recordMixed", inPlace := ["internal/abi.NoEscape"], unfollowed := true, recurses := true, apart := false, narrowed := true }
def RecordMixedUptoSaid : Prop := recordMixedUptoRow.holds Try.pinned (OpenSpec.upto recordMixedSpec)

/-- 'ladelaw5.RecordBig', WHERE WHAT IT READS IS OF BULK AT MOST 1048576: true; the input reads as it did. -/
def recordBigUptoRow : OpenClaim := { program := "ytpogklceaoiacaa", sum := "2be61847f5cb40e4ebb8c64e22a3840337a4c7303598f296f52b6097f7d57ebc", func := "lade/ladelaw5.RecordBig", spec := "recordBig", inPlace := ["internal/abi.NoEscape"], unfollowed := true, recurses := true, apart := false, narrowed := true }
def RecordBigUptoSaid : Prop := recordBigUptoRow.holds Try.pinned (OpenSpec.upto recordBigSpec)

/-- 'ladelaw5.RecordRows', WHERE WHAT IT READS IS OF BULK AT MOST 1048576: true; the input reads as it did. -/
def recordRowsUptoRow : OpenClaim := { program := "ytpogklceaoiacaa", sum := "2be61847f5cb40e4ebb8c64e22a3840337a4c7303598f296f52b6097f7d57ebc", func := "lade/ladelaw5.RecordRows", spec := "recordRows", inPlace := ["internal/abi.NoEscape"], unfollowed := true, recurses := true, apart := false, narrowed := true }
def RecordRowsUptoSaid : Prop := recordRowsUptoRow.holds Try.pinned (OpenSpec.upto recordRowsSpec)

end Rows
end Go.Proofs.Ytpogklceaoiacaa
