/-
  No cell of these rows narrows 'for every input' (looked for: loops, veiled, ifaces, maps, wideKeys, modest, calm, conditions, laid).
  DERIVED. THE GIVEN ROWS OF THIS SEAT. 5 by the template 'for every input the law returns true; each argument reads behind the call as it read before'; 0 by the template 'total and deterministic' (their statements: YtflaanffjjidaaaTotals.lean).
  GIVEN WITH THE SEED: the statements are not yours to turn. If you find one false, say at which input.
  Laid BY PROGRAM, IN A SANDBOX (cutbox-rows.mjs): the forced cells as the released guide's own fill.sh prints them over the translation 9d08bc287bf1edb9… (all of the seat's roots in one cut). By AI agents, Wed Nov 11 2026. No macro, syntax, notation, axiom, sorry.
-/
import Derived.Test.YtflaanffjjidaaaChecked
import GoSem.Claim
import GoSem.ClaimJoined
import GoSem.ClaimMapViews
import Derived.JoinedTies
import Derived.KernelRfl
namespace Go.Proofs.Ytflaanffjjidaaa
/- THE CELL 'sum', in the pinned program and in every row, IS THE sha256 OF THE DUMP (.gsa) THAT YtflaanffjjidaaaProg.lean LOADS. Nothing in Lean hashes anything: it is a label: what it is worth is what the hold of that sum in a sandbox is worth. -/
noncomputable def Try.pinned : Pinned := { name := "ytflaanffjjidaaa", sum := "9d08bc287bf1edb9277d48e5c311549adb51e71c6bfc9e6e27f7c51d4ea4519d", checked := Try.checked }
namespace Rows
def none {H : Type} : Left H := { results := [], args := [] }

/-- 'ladelaw11.ScanFinds': WHATEVER THE INPUT: true; the input reads as it did. -/
def scanFindsSpec : ChangeSpec := { name := "scanFinds", fn := fun _ => fun
  | [d1, d2, d3, d4] => { results := [.lit (.bool true)], args := [d1, d2, d3, d4] }
  | _ => none }
def scanFindsRow : OpenClaim := { program := "ytflaanffjjidaaa", sum := "9d08bc287bf1edb9277d48e5c311549adb51e71c6bfc9e6e27f7c51d4ea4519d", func := "lade/ladelaw11.ScanFinds", spec := "scanFinds", inPlace := ["internal/abi.NoEscape"], unfollowed := true, recurses := true, plainKeys := false, apart := false }
def ScanFindsSaid : Prop := scanFindsRow.holds Try.pinned (OpenSpec.ofChange scanFindsSpec)

/-- ITS FALSE NEIGHBOUR: 'it returns false'. Refute it at one input. -/
def scanFindsWrong : ChangeSpec := { name := "scanFinds", fn := fun _ => fun
  | [d1, d2, d3, d4] => { results := [.lit (.bool false)], args := [d1, d2, d3, d4] }
  | _ => none }
def ScanFindsWrongFalsely : Prop := scanFindsRow.holds Try.pinned (OpenSpec.ofChange scanFindsWrong)

/-- 'ladelaw11.ScanMost': WHATEVER THE INPUT: true; the input reads as it did. -/
def scanMostSpec : ChangeSpec := { name := "scanMost", fn := fun _ => fun
  | [d1, d2, d3] => { results := [.lit (.bool true)], args := [d1, d2, d3] }
  | _ => none }
def scanMostRow : OpenClaim := { program := "ytflaanffjjidaaa", sum := "9d08bc287bf1edb9277d48e5c311549adb51e71c6bfc9e6e27f7c51d4ea4519d", func := "lade/ladelaw11.ScanMost", spec := "scanMost", inPlace := ["internal/abi.NoEscape"], unfollowed := true, recurses := true, plainKeys := false, apart := false }
def ScanMostSaid : Prop := scanMostRow.holds Try.pinned (OpenSpec.ofChange scanMostSpec)

/-- ITS FALSE NEIGHBOUR: 'it returns false'. Refute it at one input. -/
def scanMostWrong : ChangeSpec := { name := "scanMost", fn := fun _ => fun
  | [d1, d2, d3] => { results := [.lit (.bool false)], args := [d1, d2, d3] }
  | _ => none }
def ScanMostWrongFalsely : Prop := scanMostRow.holds Try.pinned (OpenSpec.ofChange scanMostWrong)

/-- 'ladelaw11.ScanHead': WHATEVER THE INPUT: true; the input reads as it did. -/
def scanHeadSpec : ChangeSpec := { name := "scanHead", fn := fun _ => fun
  | [d1, d2, d3, d4] => { results := [.lit (.bool true)], args := [d1, d2, d3, d4] }
  | _ => none }
def scanHeadRow : OpenClaim := { program := "ytflaanffjjidaaa", sum := "9d08bc287bf1edb9277d48e5c311549adb51e71c6bfc9e6e27f7c51d4ea4519d", func := "lade/ladelaw11.ScanHead", spec := "scanHead", inPlace := ["internal/abi.NoEscape"], unfollowed := true, recurses := true, plainKeys := false, apart := false }
def ScanHeadSaid : Prop := scanHeadRow.holds Try.pinned (OpenSpec.ofChange scanHeadSpec)

/-- ITS FALSE NEIGHBOUR: 'it returns false'. Refute it at one input. -/
def scanHeadWrong : ChangeSpec := { name := "scanHead", fn := fun _ => fun
  | [d1, d2, d3, d4] => { results := [.lit (.bool false)], args := [d1, d2, d3, d4] }
  | _ => none }
def ScanHeadWrongFalsely : Prop := scanHeadRow.holds Try.pinned (OpenSpec.ofChange scanHeadWrong)

/-- 'ladelaw17.ForwardMoves': WHATEVER THE INPUT: true; the input reads as it did. -/
def forwardMovesSpec : ChangeSpec := { name := "forwardMoves", fn := fun _ => fun
  | [d1, d2] => { results := [.lit (.bool true)], args := [d1, d2] }
  | _ => none }
def forwardMovesRow : OpenClaim := { program := "ytflaanffjjidaaa", sum := "9d08bc287bf1edb9277d48e5c311549adb51e71c6bfc9e6e27f7c51d4ea4519d", func := "lade/ladelaw17.ForwardMoves", spec := "forwardMoves", inPlace := ["internal/abi.NoEscape"], unfollowed := true, recurses := true, plainKeys := false, apart := false }
def ForwardMovesSaid : Prop := forwardMovesRow.holds Try.pinned (OpenSpec.ofChange forwardMovesSpec)

/-- ITS FALSE NEIGHBOUR: 'it returns false'. Refute it at one input. -/
def forwardMovesWrong : ChangeSpec := { name := "forwardMoves", fn := fun _ => fun
  | [d1, d2] => { results := [.lit (.bool false)], args := [d1, d2] }
  | _ => none }
def ForwardMovesWrongFalsely : Prop := forwardMovesRow.holds Try.pinned (OpenSpec.ofChange forwardMovesWrong)

/-- 'ladelaw17.ForwardChunks': WHATEVER THE INPUT: true; the input reads as it did. -/
def forwardChunksSpec : ChangeSpec := { name := "forwardChunks", fn := fun _ => fun
  | [d1, d2, d3, d4] => { results := [.lit (.bool true)], args := [d1, d2, d3, d4] }
  | _ => none }
def forwardChunksRow : OpenClaim := { program := "ytflaanffjjidaaa", sum := "9d08bc287bf1edb9277d48e5c311549adb51e71c6bfc9e6e27f7c51d4ea4519d", func := "lade/ladelaw17.ForwardChunks", spec := "forwardChunks", inPlace := ["internal/abi.NoEscape"], unfollowed := true, recurses := true, plainKeys := false, apart := false }
def ForwardChunksSaid : Prop := forwardChunksRow.holds Try.pinned (OpenSpec.ofChange forwardChunksSpec)

/-- ITS FALSE NEIGHBOUR: 'it returns false'. Refute it at one input. -/
def forwardChunksWrong : ChangeSpec := { name := "forwardChunks", fn := fun _ => fun
  | [d1, d2, d3, d4] => { results := [.lit (.bool false)], args := [d1, d2, d3, d4] }
  | _ => none }
def ForwardChunksWrongFalsely : Prop := forwardChunksRow.holds Try.pinned (OpenSpec.ofChange forwardChunksWrong)

/- THE SECOND FORM. 'bulk': how many values and letters a reading holds, each counted each time it is reached (what is shared counts as often as it is met; a slice's spare places count too). A statement '..UptoSaid' is the law's where the arguments, and the package variables that the reading takes, are together of bulk at most 1048576: NARROWER than '..Said'. Prove '..Said' where nothing that the law and all that it calls make is longer than what came in: it says more and counts as full. Else prove '..UptoSaid'. A law counts once. -/
mutual
def uptoBulk {H : Type} : DataW H → Nat
  | .lit (.string bytes) => bytes.length + 1
  | .lit _ => 1
  | .nil => 1
  | .ptr d => uptoBulk d + 1
  | .slice elems spare => uptoBulkAll elems + uptoBulkAll spare + 1
  | .agg parts => uptoBulkAll parts + 1
  | .iface _ d => uptoBulk d + 1
  | .map entries => uptoBulkEntries entries + 1
  | .held _ => 1
def uptoBulkAll {H : Type} : List (DataW H) → Nat
  | [] => 0
  | d :: r => uptoBulk d + uptoBulkAll r
def uptoBulkEntries {H : Type} : List (Lit × DataW H) → Nat
  | [] => 0
  | x :: r => uptoBulkEntry x + uptoBulkEntries r
def uptoBulkEntry {H : Type} : Lit × DataW H → Nat
  | (.string bytes, d) => bytes.length + uptoBulk d + 1
  | (_, d) => uptoBulk d + 1
 end
def uptoSmall : (H : Type) → List (DataW H) → Bool := fun _ ds => decide (uptoBulkAll ds ≤ 1048576)
def OpenSpec.upto (s : _root_.Go.ChangeSpec) : _root_.Go.OpenSpec := { _root_.Go.OpenSpec.ofChange s with cond := some uptoSmall }

/-- 'ladelaw11.ScanFinds', WHERE WHAT IT READS IS OF BULK AT MOST 1048576: true; the input reads as it did. -/
def scanFindsUptoRow : OpenClaim := { program := "ytflaanffjjidaaa", sum := "9d08bc287bf1edb9277d48e5c311549adb51e71c6bfc9e6e27f7c51d4ea4519d", func := "lade/ladelaw11.ScanFinds", spec := "scanFinds", inPlace := ["internal/abi.NoEscape"], unfollowed := true, recurses := true, plainKeys := false, apart := false, narrowed := true }
def ScanFindsUptoSaid : Prop := scanFindsUptoRow.holds Try.pinned (OpenSpec.upto scanFindsSpec)

/-- 'ladelaw11.ScanMost', WHERE WHAT IT READS IS OF BULK AT MOST 1048576: true; the input reads as it did. -/
def scanMostUptoRow : OpenClaim := { program := "ytflaanffjjidaaa", sum := "9d08bc287bf1edb9277d48e5c311549adb51e71c6bfc9e6e27f7c51d4ea4519d", func := "lade/ladelaw11.ScanMost", spec := "scanMost", inPlace := ["internal/abi.NoEscape"], unfollowed := true, recurses := true, plainKeys := false, apart := false, narrowed := true }
def ScanMostUptoSaid : Prop := scanMostUptoRow.holds Try.pinned (OpenSpec.upto scanMostSpec)

/-- 'ladelaw11.ScanHead', WHERE WHAT IT READS IS OF BULK AT MOST 1048576: true; the input reads as it did. -/
def scanHeadUptoRow : OpenClaim := { program := "ytflaanffjjidaaa", sum := "9d08bc287bf1edb9277d48e5c311549adb51e71c6bfc9e6e27f7c51d4ea4519d", func := "lade/ladelaw11.ScanHead", spec := "scanHead", inPlace := ["internal/abi.NoEscape"], unfollowed := true, recurses := true, plainKeys := false, apart := false, narrowed := true }
def ScanHeadUptoSaid : Prop := scanHeadUptoRow.holds Try.pinned (OpenSpec.upto scanHeadSpec)

/-- 'ladelaw17.ForwardMoves', WHERE WHAT IT READS IS OF BULK AT MOST 1048576: true; the input reads as it did. -/
def forwardMovesUptoRow : OpenClaim := { program := "ytflaanffjjidaaa", sum := "9d08bc287bf1edb9277d48e5c311549adb51e71c6bfc9e6e27f7c51d4ea4519d", func := "lade/ladelaw17.ForwardMoves", spec := "forwardMoves", inPlace := ["internal/abi.NoEscape"], unfollowed := true, recurses := true, plainKeys := false, apart := false, narrowed := true }
def ForwardMovesUptoSaid : Prop := forwardMovesUptoRow.holds Try.pinned (OpenSpec.upto forwardMovesSpec)

/-- 'ladelaw17.ForwardChunks', WHERE WHAT IT READS IS OF BULK AT MOST 1048576: true; the input reads as it did. -/
def forwardChunksUptoRow : OpenClaim := { program := "ytflaanffjjidaaa", sum := "9d08bc287bf1edb9277d48e5c311549adb51e71c6bfc9e6e27f7c51d4ea4519d", func := "lade/ladelaw17.ForwardChunks", spec := "forwardChunks", inPlace := ["internal/abi.NoEscape"], unfollowed := true, recurses := true, plainKeys := false, apart := false, narrowed := true }
def ForwardChunksUptoSaid : Prop := forwardChunksUptoRow.holds Try.pinned (OpenSpec.upto forwardChunksSpec)

end Rows
end Go.Proofs.Ytflaanffjjidaaa
