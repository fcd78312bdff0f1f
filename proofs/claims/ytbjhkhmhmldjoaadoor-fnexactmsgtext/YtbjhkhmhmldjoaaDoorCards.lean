/-
  DERIVED. GIVEN WITH THE SEED: THE CARDS: each row of YtbjhkhmhmldjoaaDoorRows.lean that lists a variable, with what it lists TIED to the program's text (the seventh form; the later family's looks); each row that meets fmt, with fmt's text TOLD by the authors' own Lean function (tested against real Go, not proved from fmt's source: count such statements apart). THE CARD IS WHAT COUNTS. Prove the row's statement (the work); the ties are given (YtbjhkhmhmldjoaaDoorTie.lean); close each card by the builder's one call (the guide's Derived/Test/ToyasCard.lean, 'card_holds'). Laid BY PROGRAM, IN A SANDBOX (cutbox-door.mjs). By AI agents, Wed Nov 11 2026. No macro, syntax, notation, axiom, sorry.
-/
import Derived.Test.YtbjhkhmhmldjoaaDoorRows
import GoSem.ClaimSeven
namespace Go.Proofs.YtbjhkhmhmldjoaaDoor
namespace Rows

/-- THE TIED CARD OF 'laws.FnRecords'. -/
def fnRecordsCard : Claim7 := { stood := { row := fnRecordsRow, standIns := [], harness := (true, "520e87546e0afbd246ff326b0e7e814a863e067cc0ffefa74b9a4bc65ff8061f"), looks := false }, kinds := [], alts := [], laidByText := true, laidKinds := [.data, .data, .data, .data, .pinned], laidTests := true, laidLooks := .later }
def FnRecordsCardSaid : Prop := Claim7.holds Tryd.pinned (.plain (OpenSpec.ofChange fnRecordsSpec)) fnRecordsCard

/-- THE TIED CARD OF 'laws.FnExactSortRecords'. -/
def fnExactSortRecordsCard : Claim7 := { stood := { row := fnExactSortRecordsRow, standIns := [], harness := (true, "520e87546e0afbd246ff326b0e7e814a863e067cc0ffefa74b9a4bc65ff8061f"), looks := false }, kinds := [], alts := [], laidByText := true, laidKinds := [.data, .pinned], laidTests := true, laidLooks := .later }
def FnExactSortRecordsCardSaid : Prop := Claim7.holds Tryd.pinned (.plain (OpenSpec.ofChange fnExactSortRecordsSpec)) fnExactSortRecordsCard

/-- THE TIED CARD OF 'laws.FnExactQuestOk'. -/
def fnExactQuestOkCard : Claim7 := { stood := { row := fnExactQuestOkRow, standIns := [], harness := (true, "520e87546e0afbd246ff326b0e7e814a863e067cc0ffefa74b9a4bc65ff8061f"), looks := false }, kinds := [], alts := [], laidByText := true, laidKinds := [.data, .pinned], laidTests := true, laidLooks := .later }
def FnExactQuestOkCardSaid : Prop := Claim7.holds Tryd.pinned (.plain (OpenSpec.ofChange fnExactQuestOkSpec)) fnExactQuestOkCard

/-- THE TIED CARD OF 'laws.FnExactMsgOk'. -/
def fnExactMsgOkCard : Claim7 := { stood := { row := fnExactMsgOkRow, standIns := [], harness := (true, "520e87546e0afbd246ff326b0e7e814a863e067cc0ffefa74b9a4bc65ff8061f"), looks := false }, kinds := [], alts := [], laidByText := true, laidKinds := [.data, .pinned], laidTests := true, laidLooks := .later }
def FnExactMsgOkCardSaid : Prop := Claim7.holds Tryd.pinned (.plain (OpenSpec.ofChange fnExactMsgOkSpec)) fnExactMsgOkCard

/-- THE TIED CARD OF 'laws.FnExactMsgText'. -/
def fnExactMsgTextCard : Claim7 := { stood := { row := fnExactMsgTextRow, standIns := [], harness := (true, "520e87546e0afbd246ff326b0e7e814a863e067cc0ffefa74b9a4bc65ff8061f"), looks := false }, kinds := [], alts := [], laidByText := true, laidKinds := [.data, .data, .data, .data, .pinned], laidTests := true, laidLooks := .later }
def FnExactMsgTextCardSaid : Prop := Claim7.holds Tryd.pinned (.plain (OpenSpec.ofChange fnExactMsgTextSpec)) fnExactMsgTextCard

/-- THE SECOND FORM's CARD OF 'laws.FnRecords'. -/
def fnRecordsUptoCard : Claim7 := { stood := { row := fnRecordsUptoRow, standIns := [], harness := (true, "520e87546e0afbd246ff326b0e7e814a863e067cc0ffefa74b9a4bc65ff8061f"), looks := false }, kinds := [], alts := [], laidByText := true, laidKinds := [.data, .data, .data, .data, .pinned], laidTests := true, laidLooks := .later }
def FnRecordsUptoCardSaid : Prop := Claim7.holds Tryd.pinned (.plain (OpenSpec.upto fnRecordsSpec)) fnRecordsUptoCard

/-- THE SECOND FORM's CARD OF 'laws.FnExactSortRecords'. -/
def fnExactSortRecordsUptoCard : Claim7 := { stood := { row := fnExactSortRecordsUptoRow, standIns := [], harness := (true, "520e87546e0afbd246ff326b0e7e814a863e067cc0ffefa74b9a4bc65ff8061f"), looks := false }, kinds := [], alts := [], laidByText := true, laidKinds := [.data, .pinned], laidTests := true, laidLooks := .later }
def FnExactSortRecordsUptoCardSaid : Prop := Claim7.holds Tryd.pinned (.plain (OpenSpec.upto fnExactSortRecordsSpec)) fnExactSortRecordsUptoCard

/-- THE SECOND FORM's CARD OF 'laws.FnExactQuestOk'. -/
def fnExactQuestOkUptoCard : Claim7 := { stood := { row := fnExactQuestOkUptoRow, standIns := [], harness := (true, "520e87546e0afbd246ff326b0e7e814a863e067cc0ffefa74b9a4bc65ff8061f"), looks := false }, kinds := [], alts := [], laidByText := true, laidKinds := [.data, .pinned], laidTests := true, laidLooks := .later }
def FnExactQuestOkUptoCardSaid : Prop := Claim7.holds Tryd.pinned (.plain (OpenSpec.upto fnExactQuestOkSpec)) fnExactQuestOkUptoCard

/-- THE SECOND FORM's CARD OF 'laws.FnExactMsgOk'. -/
def fnExactMsgOkUptoCard : Claim7 := { stood := { row := fnExactMsgOkUptoRow, standIns := [], harness := (true, "520e87546e0afbd246ff326b0e7e814a863e067cc0ffefa74b9a4bc65ff8061f"), looks := false }, kinds := [], alts := [], laidByText := true, laidKinds := [.data, .pinned], laidTests := true, laidLooks := .later }
def FnExactMsgOkUptoCardSaid : Prop := Claim7.holds Tryd.pinned (.plain (OpenSpec.upto fnExactMsgOkSpec)) fnExactMsgOkUptoCard

/-- THE SECOND FORM's CARD OF 'laws.FnExactMsgText'. -/
def fnExactMsgTextUptoCard : Claim7 := { stood := { row := fnExactMsgTextUptoRow, standIns := [], harness := (true, "520e87546e0afbd246ff326b0e7e814a863e067cc0ffefa74b9a4bc65ff8061f"), looks := false }, kinds := [], alts := [], laidByText := true, laidKinds := [.data, .data, .data, .data, .pinned], laidTests := true, laidLooks := .later }
def FnExactMsgTextUptoCardSaid : Prop := Claim7.holds Tryd.pinned (.plain (OpenSpec.upto fnExactMsgTextSpec)) fnExactMsgTextUptoCard
end Rows
end Go.Proofs.YtbjhkhmhmldjoaaDoor
