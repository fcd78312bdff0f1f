/-
  DERIVED. GIVEN WITH THE SEED: THE CARDS: each row of YtcpadkehalgddaaDoorRows.lean that lists a variable, with what it lists TIED to the program's text (the seventh form; the later family's looks); each row that meets fmt, with fmt's text TOLD by the authors' own Lean function (tested against real Go, not proved from fmt's source: count such statements apart). THE CARD IS WHAT COUNTS. Prove the row's statement (the work); the ties are given (YtcpadkehalgddaaDoorTie.lean); close each card by the builder's one call (the guide's Derived/Test/ToyasCard.lean, 'card_holds'). Laid BY PROGRAM, IN A SANDBOX (cutbox-door.mjs). By AI agents, Wed Nov 11 2026. No macro, syntax, notation, axiom, sorry.
-/
import Derived.Test.YtcpadkehalgddaaDoorRows
import GoSem.ClaimSeven
namespace Go.Proofs.YtcpadkehalgddaaDoor
namespace Rows

/-- THE TIED CARD OF 'laws.FnRecords'. -/
def fnRecordsCard : Claim7 := { stood := { row := fnRecordsRow, standIns := [], harness := (true, "3f1478d345561613b91191439e99ca60a44ad81de64ae34211b769e5e7235050"), looks := true }, kinds := [], alts := [], laidByText := true, laidKinds := [.data, .data, .data, .data, .pinned], laidTests := true, laidLooks := .later }
def FnRecordsCardSaid : Prop := Claim7.holds Tryd.pinned (.plain (OpenSpec.ofChange fnRecordsSpec)) fnRecordsCard

/-- THE TIED CARD OF 'laws.FnExactPutData'. -/
def fnExactPutDataCard : Claim7 := { stood := { row := fnExactPutDataRow, standIns := [], harness := (true, "3f1478d345561613b91191439e99ca60a44ad81de64ae34211b769e5e7235050"), looks := true }, kinds := [], alts := [], laidByText := true, laidKinds := [.data, .pinned], laidTests := true, laidLooks := .later }
def FnExactPutDataCardSaid : Prop := Claim7.holds Tryd.pinned (.plain (OpenSpec.ofChange fnExactPutDataSpec)) fnExactPutDataCard

/-- THE TIED CARD OF 'laws.FnExactGetData'. -/
def fnExactGetDataCard : Claim7 := { stood := { row := fnExactGetDataRow, standIns := [], harness := (true, "3f1478d345561613b91191439e99ca60a44ad81de64ae34211b769e5e7235050"), looks := true }, kinds := [], alts := [], laidByText := true, laidKinds := [.data, .pinned], laidTests := true, laidLooks := .later }
def FnExactGetDataCardSaid : Prop := Claim7.holds Tryd.pinned (.plain (OpenSpec.ofChange fnExactGetDataSpec)) fnExactGetDataCard

/-- THE TIED CARD OF 'laws.FnExactPutRecord'. -/
def fnExactPutRecordCard : Claim7 := { stood := { row := fnExactPutRecordRow, standIns := [], harness := (true, "3f1478d345561613b91191439e99ca60a44ad81de64ae34211b769e5e7235050"), looks := true }, kinds := [], alts := [], laidByText := true, laidKinds := [.data, .pinned], laidTests := true, laidLooks := .later }
def FnExactPutRecordCardSaid : Prop := Claim7.holds Tryd.pinned (.plain (OpenSpec.ofChange fnExactPutRecordSpec)) fnExactPutRecordCard

/-- THE TIED CARD OF 'laws.FnExactGetRecord'. -/
def fnExactGetRecordCard : Claim7 := { stood := { row := fnExactGetRecordRow, standIns := [], harness := (true, "3f1478d345561613b91191439e99ca60a44ad81de64ae34211b769e5e7235050"), looks := true }, kinds := [], alts := [], laidByText := true, laidKinds := [.data, .pinned], laidTests := true, laidLooks := .later }
def FnExactGetRecordCardSaid : Prop := Claim7.holds Tryd.pinned (.plain (OpenSpec.ofChange fnExactGetRecordSpec)) fnExactGetRecordCard

/-- THE TIED CARD OF 'laws.FnExactGetRecords'. -/
def fnExactGetRecordsCard : Claim7 := { stood := { row := fnExactGetRecordsRow, standIns := [], harness := (true, "3f1478d345561613b91191439e99ca60a44ad81de64ae34211b769e5e7235050"), looks := true }, kinds := [], alts := [], laidByText := true, laidKinds := [.data, .pinned], laidTests := true, laidLooks := .later }
def FnExactGetRecordsCardSaid : Prop := Claim7.holds Tryd.pinned (.plain (OpenSpec.ofChange fnExactGetRecordsSpec)) fnExactGetRecordsCard

/-- THE SECOND FORM's CARD OF 'laws.FnRecords'. -/
def fnRecordsUptoCard : Claim7 := { stood := { row := fnRecordsUptoRow, standIns := [], harness := (true, "3f1478d345561613b91191439e99ca60a44ad81de64ae34211b769e5e7235050"), looks := true }, kinds := [], alts := [], laidByText := true, laidKinds := [.data, .data, .data, .data, .pinned], laidTests := true, laidLooks := .later }
def FnRecordsUptoCardSaid : Prop := Claim7.holds Tryd.pinned (.plain (OpenSpec.upto fnRecordsSpec)) fnRecordsUptoCard

/-- THE SECOND FORM's CARD OF 'laws.FnExactPutData'. -/
def fnExactPutDataUptoCard : Claim7 := { stood := { row := fnExactPutDataUptoRow, standIns := [], harness := (true, "3f1478d345561613b91191439e99ca60a44ad81de64ae34211b769e5e7235050"), looks := true }, kinds := [], alts := [], laidByText := true, laidKinds := [.data, .pinned], laidTests := true, laidLooks := .later }
def FnExactPutDataUptoCardSaid : Prop := Claim7.holds Tryd.pinned (.plain (OpenSpec.upto fnExactPutDataSpec)) fnExactPutDataUptoCard

/-- THE SECOND FORM's CARD OF 'laws.FnExactGetData'. -/
def fnExactGetDataUptoCard : Claim7 := { stood := { row := fnExactGetDataUptoRow, standIns := [], harness := (true, "3f1478d345561613b91191439e99ca60a44ad81de64ae34211b769e5e7235050"), looks := true }, kinds := [], alts := [], laidByText := true, laidKinds := [.data, .pinned], laidTests := true, laidLooks := .later }
def FnExactGetDataUptoCardSaid : Prop := Claim7.holds Tryd.pinned (.plain (OpenSpec.upto fnExactGetDataSpec)) fnExactGetDataUptoCard

/-- THE SECOND FORM's CARD OF 'laws.FnExactPutRecord'. -/
def fnExactPutRecordUptoCard : Claim7 := { stood := { row := fnExactPutRecordUptoRow, standIns := [], harness := (true, "3f1478d345561613b91191439e99ca60a44ad81de64ae34211b769e5e7235050"), looks := true }, kinds := [], alts := [], laidByText := true, laidKinds := [.data, .pinned], laidTests := true, laidLooks := .later }
def FnExactPutRecordUptoCardSaid : Prop := Claim7.holds Tryd.pinned (.plain (OpenSpec.upto fnExactPutRecordSpec)) fnExactPutRecordUptoCard

/-- THE SECOND FORM's CARD OF 'laws.FnExactGetRecord'. -/
def fnExactGetRecordUptoCard : Claim7 := { stood := { row := fnExactGetRecordUptoRow, standIns := [], harness := (true, "3f1478d345561613b91191439e99ca60a44ad81de64ae34211b769e5e7235050"), looks := true }, kinds := [], alts := [], laidByText := true, laidKinds := [.data, .pinned], laidTests := true, laidLooks := .later }
def FnExactGetRecordUptoCardSaid : Prop := Claim7.holds Tryd.pinned (.plain (OpenSpec.upto fnExactGetRecordSpec)) fnExactGetRecordUptoCard

/-- THE SECOND FORM's CARD OF 'laws.FnExactGetRecords'. -/
def fnExactGetRecordsUptoCard : Claim7 := { stood := { row := fnExactGetRecordsUptoRow, standIns := [], harness := (true, "3f1478d345561613b91191439e99ca60a44ad81de64ae34211b769e5e7235050"), looks := true }, kinds := [], alts := [], laidByText := true, laidKinds := [.data, .pinned], laidTests := true, laidLooks := .later }
def FnExactGetRecordsUptoCardSaid : Prop := Claim7.holds Tryd.pinned (.plain (OpenSpec.upto fnExactGetRecordsSpec)) fnExactGetRecordsUptoCard
end Rows
end Go.Proofs.YtcpadkehalgddaaDoor
