/-
  DERIVED. GIVEN WITH THE SEED: THE CARDS: each row of YtcgghjemhmnjeaaDoorRows.lean that lists a variable, with what it lists TIED to the program's text (the seventh form; the later family's looks); each row that meets fmt, with fmt's text TOLD by the authors' own Lean function (tested against real Go, not proved from fmt's source: count such statements apart). THE CARD IS WHAT COUNTS. Prove the row's statement (the work); the ties are given (YtcgghjemhmnjeaaDoorTie.lean); close each card by the builder's one call (the guide's Derived/Test/ToyasCard.lean, 'card_holds'). Laid BY PROGRAM, IN A SANDBOX (cutbox-door.mjs). By AI agents, Wed Nov 11 2026. No macro, syntax, notation, axiom, sorry.
-/
import Derived.Test.YtcgghjemhmnjeaaDoorRows
import GoSem.ClaimSeven
namespace Go.Proofs.YtcgghjemhmnjeaaDoor
namespace Rows

/-- THE TIED CARD OF 'laws.FnRecords'. -/
def fnRecordsCard : Claim7 := { stood := { row := fnRecordsRow, standIns := [], harness := (true, "f100b7a7e8548674e67b62758870a3d3dd88b08e81469c5d5a42f8c5146c3446"), looks := false }, kinds := [], alts := [], laidByText := true, laidKinds := [.data, .data, .data, .data, .pinned], laidTests := true, laidLooks := .later }
def FnRecordsCardSaid : Prop := Claim7.holds Tryd.pinned (.plain (OpenSpec.ofChange fnRecordsSpec)) fnRecordsCard

/-- THE TIED CARD OF 'laws.FnExactRecordOk'. -/
def fnExactRecordOkCard : Claim7 := { stood := { row := fnExactRecordOkRow, standIns := [], harness := (true, "f100b7a7e8548674e67b62758870a3d3dd88b08e81469c5d5a42f8c5146c3446"), looks := false }, kinds := [], alts := [], laidByText := true, laidKinds := [.data, .pinned], laidTests := true, laidLooks := .later }
def FnExactRecordOkCardSaid : Prop := Claim7.holds Tryd.pinned (.plain (OpenSpec.ofChange fnExactRecordOkSpec)) fnExactRecordOkCard

/-- THE TIED CARD OF 'laws.FnExactLessRecord'. -/
def fnExactLessRecordCard : Claim7 := { stood := { row := fnExactLessRecordRow, standIns := [], harness := (true, "f100b7a7e8548674e67b62758870a3d3dd88b08e81469c5d5a42f8c5146c3446"), looks := false }, kinds := [], alts := [], laidByText := true, laidKinds := [.data, .pinned], laidTests := true, laidLooks := .later }
def FnExactLessRecordCardSaid : Prop := Claim7.holds Tryd.pinned (.plain (OpenSpec.ofChange fnExactLessRecordSpec)) fnExactLessRecordCard

/-- THE TIED CARD OF 'laws.FnExactSortRecords'. -/
def fnExactSortRecordsCard : Claim7 := { stood := { row := fnExactSortRecordsRow, standIns := [], harness := (true, "f100b7a7e8548674e67b62758870a3d3dd88b08e81469c5d5a42f8c5146c3446"), looks := false }, kinds := [], alts := [], laidByText := true, laidKinds := [.data, .pinned], laidTests := true, laidLooks := .later }
def FnExactSortRecordsCardSaid : Prop := Claim7.holds Tryd.pinned (.plain (OpenSpec.ofChange fnExactSortRecordsSpec)) fnExactSortRecordsCard

/-- THE TIED CARD OF 'laws.FnExactRecordText'. -/
def fnExactRecordTextCard : Claim7 := { stood := { row := fnExactRecordTextRow, standIns := [], harness := (true, "f100b7a7e8548674e67b62758870a3d3dd88b08e81469c5d5a42f8c5146c3446"), looks := false }, kinds := [], alts := [], laidByText := true, laidKinds := [.data, .data, .data, .data, .pinned], laidTests := true, laidLooks := .later }
def FnExactRecordTextCardSaid : Prop := Claim7.holds Tryd.pinned (.plain (OpenSpec.ofChange fnExactRecordTextSpec)) fnExactRecordTextCard

/-- THE SECOND FORM's CARD OF 'laws.FnRecords'. -/
def fnRecordsUptoCard : Claim7 := { stood := { row := fnRecordsUptoRow, standIns := [], harness := (true, "f100b7a7e8548674e67b62758870a3d3dd88b08e81469c5d5a42f8c5146c3446"), looks := false }, kinds := [], alts := [], laidByText := true, laidKinds := [.data, .data, .data, .data, .pinned], laidTests := true, laidLooks := .later }
def FnRecordsUptoCardSaid : Prop := Claim7.holds Tryd.pinned (.plain (OpenSpec.upto fnRecordsSpec)) fnRecordsUptoCard

/-- THE SECOND FORM's CARD OF 'laws.FnExactRecordOk'. -/
def fnExactRecordOkUptoCard : Claim7 := { stood := { row := fnExactRecordOkUptoRow, standIns := [], harness := (true, "f100b7a7e8548674e67b62758870a3d3dd88b08e81469c5d5a42f8c5146c3446"), looks := false }, kinds := [], alts := [], laidByText := true, laidKinds := [.data, .pinned], laidTests := true, laidLooks := .later }
def FnExactRecordOkUptoCardSaid : Prop := Claim7.holds Tryd.pinned (.plain (OpenSpec.upto fnExactRecordOkSpec)) fnExactRecordOkUptoCard

/-- THE SECOND FORM's CARD OF 'laws.FnExactLessRecord'. -/
def fnExactLessRecordUptoCard : Claim7 := { stood := { row := fnExactLessRecordUptoRow, standIns := [], harness := (true, "f100b7a7e8548674e67b62758870a3d3dd88b08e81469c5d5a42f8c5146c3446"), looks := false }, kinds := [], alts := [], laidByText := true, laidKinds := [.data, .pinned], laidTests := true, laidLooks := .later }
def FnExactLessRecordUptoCardSaid : Prop := Claim7.holds Tryd.pinned (.plain (OpenSpec.upto fnExactLessRecordSpec)) fnExactLessRecordUptoCard

/-- THE SECOND FORM's CARD OF 'laws.FnExactSortRecords'. -/
def fnExactSortRecordsUptoCard : Claim7 := { stood := { row := fnExactSortRecordsUptoRow, standIns := [], harness := (true, "f100b7a7e8548674e67b62758870a3d3dd88b08e81469c5d5a42f8c5146c3446"), looks := false }, kinds := [], alts := [], laidByText := true, laidKinds := [.data, .pinned], laidTests := true, laidLooks := .later }
def FnExactSortRecordsUptoCardSaid : Prop := Claim7.holds Tryd.pinned (.plain (OpenSpec.upto fnExactSortRecordsSpec)) fnExactSortRecordsUptoCard

/-- THE SECOND FORM's CARD OF 'laws.FnExactRecordText'. -/
def fnExactRecordTextUptoCard : Claim7 := { stood := { row := fnExactRecordTextUptoRow, standIns := [], harness := (true, "f100b7a7e8548674e67b62758870a3d3dd88b08e81469c5d5a42f8c5146c3446"), looks := false }, kinds := [], alts := [], laidByText := true, laidKinds := [.data, .data, .data, .data, .pinned], laidTests := true, laidLooks := .later }
def FnExactRecordTextUptoCardSaid : Prop := Claim7.holds Tryd.pinned (.plain (OpenSpec.upto fnExactRecordTextSpec)) fnExactRecordTextUptoCard
end Rows
end Go.Proofs.YtcgghjemhmnjeaaDoor
