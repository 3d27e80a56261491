/-
  DERIVED. GIVEN WITH THE SEED: THE CARDS: each row of YtoieacmipejfeaaGreatDoorRows.lean that lists a variable, with what it lists TIED to the program's text (the seventh form; the later family's looks); each row that meets fmt, with fmt's text TOLD by the authors' own Lean function (tested against real Go, not proved from fmt's source: count such statements apart). THE CARD IS WHAT COUNTS. Prove the row's statement (the work); the ties are given (YtoieacmipejfeaaGreatDoorTie.lean); close each card by the builder's one call (the guide's Derived/Test/ToyasCard.lean, 'card_holds'). Laid BY PROGRAM, IN A SANDBOX (cutbox-door.mjs). By AI agents, Wed Nov 11 2026. No macro, syntax, notation, axiom, sorry.
-/
import Derived.Test.YtoieacmipejfeaaGreatDoorRows
import GoSem.ClaimSeven
namespace Go.Proofs.YtoieacmipejfeaaGreatDoor
namespace Rows

/-- THE TIED CARD OF 'ladelaw22.WriterPlays'. -/
def writerPlaysCard : Claim7 := { stood := { row := writerPlaysRow, standIns := [], harness := (true, "9c20f88036e4208730f7a0dbb54201dc1f1253c731c874bc9d5009fed89d8513"), looks := true }, kinds := [], alts := [], laidByText := true, laidKinds := [.data, .data, .data, .sentinel, .sentinel], laidTests := true, laidLooks := .later }
def WriterPlaysCardSaid : Prop := Claim7.holds Tryz.pinned (.plain (OpenSpec.ofChange writerPlaysSpec)) writerPlaysCard

/-- THE TIED CARD OF 'ladelaw22.WriterCrashes'. -/
def writerCrashesCard : Claim7 := { stood := { row := writerCrashesRow, standIns := [], harness := (true, "9c20f88036e4208730f7a0dbb54201dc1f1253c731c874bc9d5009fed89d8513"), looks := true }, kinds := [], alts := [], laidByText := true, laidKinds := [.data, .data, .data, .sentinel, .sentinel], laidTests := true, laidLooks := .later }
def WriterCrashesCardSaid : Prop := Claim7.holds Tryz.pinned (.plain (OpenSpec.ofChange writerCrashesSpec)) writerCrashesCard

/-- THE TIED CARD OF 'ladelaw22.WriterFull'. -/
def writerFullCard : Claim7 := { stood := { row := writerFullRow, standIns := [], harness := (true, "9c20f88036e4208730f7a0dbb54201dc1f1253c731c874bc9d5009fed89d8513"), looks := true }, kinds := [], alts := [], laidByText := true, laidKinds := [.data, .data, .data, .sentinel, .sentinel], laidTests := true, laidLooks := .later }
def WriterFullCardSaid : Prop := Claim7.holds Tryz.pinned (.plain (OpenSpec.ofChange writerFullSpec)) writerFullCard

/-- THE TIED CARD OF 'ladelaw22.WriterFills'. -/
def writerFillsCard : Claim7 := { stood := { row := writerFillsRow, standIns := [], harness := (true, "9c20f88036e4208730f7a0dbb54201dc1f1253c731c874bc9d5009fed89d8513"), looks := true }, kinds := [], alts := [], laidByText := true, laidKinds := [.data, .data, .data, .sentinel, .sentinel], laidTests := true, laidLooks := .later }
def WriterFillsCardSaid : Prop := Claim7.holds Tryz.pinned (.plain (OpenSpec.ofChange writerFillsSpec)) writerFillsCard

/-- THE TIED CARD OF 'ladelaw22.WriterLeft'. -/
def writerLeftCard : Claim7 := { stood := { row := writerLeftRow, standIns := [], harness := (true, "9c20f88036e4208730f7a0dbb54201dc1f1253c731c874bc9d5009fed89d8513"), looks := true }, kinds := [], alts := [], laidByText := true, laidKinds := [.data, .data, .data, .sentinel, .sentinel], laidTests := true, laidLooks := .later }
def WriterLeftCardSaid : Prop := Claim7.holds Tryz.pinned (.plain (OpenSpec.ofChange writerLeftSpec)) writerLeftCard

/-- THE SECOND FORM's CARD OF 'ladelaw22.WriterPlays'. -/
def writerPlaysUptoCard : Claim7 := { stood := { row := writerPlaysUptoRow, standIns := [], harness := (true, "9c20f88036e4208730f7a0dbb54201dc1f1253c731c874bc9d5009fed89d8513"), looks := true }, kinds := [], alts := [], laidByText := true, laidKinds := [.data, .data, .data, .sentinel, .sentinel], laidTests := true, laidLooks := .later }
def WriterPlaysUptoCardSaid : Prop := Claim7.holds Tryz.pinned (.plain (OpenSpec.upto writerPlaysSpec)) writerPlaysUptoCard

/-- THE SECOND FORM's CARD OF 'ladelaw22.WriterCrashes'. -/
def writerCrashesUptoCard : Claim7 := { stood := { row := writerCrashesUptoRow, standIns := [], harness := (true, "9c20f88036e4208730f7a0dbb54201dc1f1253c731c874bc9d5009fed89d8513"), looks := true }, kinds := [], alts := [], laidByText := true, laidKinds := [.data, .data, .data, .sentinel, .sentinel], laidTests := true, laidLooks := .later }
def WriterCrashesUptoCardSaid : Prop := Claim7.holds Tryz.pinned (.plain (OpenSpec.upto writerCrashesSpec)) writerCrashesUptoCard

/-- THE SECOND FORM's CARD OF 'ladelaw22.WriterFull'. -/
def writerFullUptoCard : Claim7 := { stood := { row := writerFullUptoRow, standIns := [], harness := (true, "9c20f88036e4208730f7a0dbb54201dc1f1253c731c874bc9d5009fed89d8513"), looks := true }, kinds := [], alts := [], laidByText := true, laidKinds := [.data, .data, .data, .sentinel, .sentinel], laidTests := true, laidLooks := .later }
def WriterFullUptoCardSaid : Prop := Claim7.holds Tryz.pinned (.plain (OpenSpec.upto writerFullSpec)) writerFullUptoCard

/-- THE SECOND FORM's CARD OF 'ladelaw22.WriterFills'. -/
def writerFillsUptoCard : Claim7 := { stood := { row := writerFillsUptoRow, standIns := [], harness := (true, "9c20f88036e4208730f7a0dbb54201dc1f1253c731c874bc9d5009fed89d8513"), looks := true }, kinds := [], alts := [], laidByText := true, laidKinds := [.data, .data, .data, .sentinel, .sentinel], laidTests := true, laidLooks := .later }
def WriterFillsUptoCardSaid : Prop := Claim7.holds Tryz.pinned (.plain (OpenSpec.upto writerFillsSpec)) writerFillsUptoCard

/-- THE SECOND FORM's CARD OF 'ladelaw22.WriterLeft'. -/
def writerLeftUptoCard : Claim7 := { stood := { row := writerLeftUptoRow, standIns := [], harness := (true, "9c20f88036e4208730f7a0dbb54201dc1f1253c731c874bc9d5009fed89d8513"), looks := true }, kinds := [], alts := [], laidByText := true, laidKinds := [.data, .data, .data, .sentinel, .sentinel], laidTests := true, laidLooks := .later }
def WriterLeftUptoCardSaid : Prop := Claim7.holds Tryz.pinned (.plain (OpenSpec.upto writerLeftSpec)) writerLeftUptoCard
end Rows
end Go.Proofs.YtoieacmipejfeaaGreatDoor
