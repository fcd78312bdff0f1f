/-
  DERIVED. GIVEN WITH THE SEED: THE CARDS: each row of YtpjkfionhjbjiaaDoorRows.lean that lists a variable, with what it lists TIED to the program's text (the seventh form; the later family's looks); each row that meets fmt, with fmt's text TOLD by the authors' own Lean function (tested against real Go, not proved from fmt's source: count such statements apart). THE CARD IS WHAT COUNTS. Prove the row's statement (the work); the ties are given (YtpjkfionhjbjiaaDoorTie.lean); close each card by the builder's one call (the guide's Derived/Test/ToyasCard.lean, 'card_holds'). Laid BY PROGRAM, IN A SANDBOX (cutbox-door.mjs). By AI agents, Wed Nov 11 2026. No macro, syntax, notation, axiom, sorry.
-/
import Derived.Test.YtpjkfionhjbjiaaDoorRows
import GoSem.ClaimSeven
namespace Go.Proofs.YtpjkfionhjbjiaaDoor
namespace Rows

/-- THE TIED CARD OF 'laws.FnWires'. -/
def fnWiresCard : Claim7 := { stood := { row := fnWiresRow, standIns := [], harness := (true, "90d851a20f0b31559df1415bb56a44017179b3235c529a6680d0c18b3c58d396"), looks := false }, kinds := [], alts := [], laidByText := true, laidKinds := [.data, .pinned], laidTests := true, laidLooks := .later }
def FnWiresCardSaid : Prop := Claim7.holds Tryd.pinned (.plain (OpenSpec.ofChange fnWiresSpec)) fnWiresCard

/-- THE TIED CARD OF 'laws.FnWiresBent'. -/
def fnWiresBentCard : Claim7 := { stood := { row := fnWiresBentRow, standIns := [], harness := (true, "90d851a20f0b31559df1415bb56a44017179b3235c529a6680d0c18b3c58d396"), looks := false }, kinds := [], alts := [], laidByText := true, laidKinds := [.data, .pinned], laidTests := true, laidLooks := .later }
def FnWiresBentCardSaid : Prop := Claim7.holds Tryd.pinned (.plain (OpenSpec.ofChange fnWiresBentSpec)) fnWiresBentCard

/-- THE TIED CARD OF 'laws.FnExactGetName'. -/
def fnExactGetNameCard : Claim7 := { stood := { row := fnExactGetNameRow, standIns := [], harness := (true, "90d851a20f0b31559df1415bb56a44017179b3235c529a6680d0c18b3c58d396"), looks := false }, kinds := [], alts := [], laidByText := true, laidKinds := [.data, .pinned], laidTests := true, laidLooks := .later }
def FnExactGetNameCardSaid : Prop := Claim7.holds Tryd.pinned (.plain (OpenSpec.ofChange fnExactGetNameSpec)) fnExactGetNameCard

/-- THE TIED CARD OF 'laws.FnExactPutPlain'. -/
def fnExactPutPlainCard : Claim7 := { stood := { row := fnExactPutPlainRow, standIns := [], harness := (true, "90d851a20f0b31559df1415bb56a44017179b3235c529a6680d0c18b3c58d396"), looks := false }, kinds := [], alts := [], laidByText := true, laidKinds := [.data, .pinned], laidTests := true, laidLooks := .later }
def FnExactPutPlainCardSaid : Prop := Claim7.holds Tryd.pinned (.plain (OpenSpec.ofChange fnExactPutPlainSpec)) fnExactPutPlainCard

/-- THE TIED CARD OF 'laws.FnExactPlaceOf'. -/
def fnExactPlaceOfCard : Claim7 := { stood := { row := fnExactPlaceOfRow, standIns := [], harness := (true, "90d851a20f0b31559df1415bb56a44017179b3235c529a6680d0c18b3c58d396"), looks := false }, kinds := [], alts := [], laidByText := true, laidKinds := [.data, .pinned], laidTests := true, laidLooks := .later }
def FnExactPlaceOfCardSaid : Prop := Claim7.holds Tryd.pinned (.plain (OpenSpec.ofChange fnExactPlaceOfSpec)) fnExactPlaceOfCard

/-- THE TIED CARD OF 'laws.FnExactPutName'. -/
def fnExactPutNameCard : Claim7 := { stood := { row := fnExactPutNameRow, standIns := [], harness := (true, "90d851a20f0b31559df1415bb56a44017179b3235c529a6680d0c18b3c58d396"), looks := false }, kinds := [], alts := [], laidByText := true, laidKinds := [.data, .pinned], laidTests := true, laidLooks := .later }
def FnExactPutNameCardSaid : Prop := Claim7.holds Tryd.pinned (.plain (OpenSpec.ofChange fnExactPutNameSpec)) fnExactPutNameCard

/-- THE TIED CARD OF 'laws.FnExactJumpsIn'. -/
def fnExactJumpsInCard : Claim7 := { stood := { row := fnExactJumpsInRow, standIns := [], harness := (true, "90d851a20f0b31559df1415bb56a44017179b3235c529a6680d0c18b3c58d396"), looks := false }, kinds := [], alts := [], laidByText := true, laidKinds := [.data, .pinned], laidTests := true, laidLooks := .later }
def FnExactJumpsInCardSaid : Prop := Claim7.holds Tryd.pinned (.plain (OpenSpec.ofChange fnExactJumpsInSpec)) fnExactJumpsInCard

/-- THE SECOND FORM's CARD OF 'laws.FnWires'. -/
def fnWiresUptoCard : Claim7 := { stood := { row := fnWiresUptoRow, standIns := [], harness := (true, "90d851a20f0b31559df1415bb56a44017179b3235c529a6680d0c18b3c58d396"), looks := false }, kinds := [], alts := [], laidByText := true, laidKinds := [.data, .pinned], laidTests := true, laidLooks := .later }
def FnWiresUptoCardSaid : Prop := Claim7.holds Tryd.pinned (.plain (OpenSpec.upto fnWiresSpec)) fnWiresUptoCard

/-- THE SECOND FORM's CARD OF 'laws.FnWiresBent'. -/
def fnWiresBentUptoCard : Claim7 := { stood := { row := fnWiresBentUptoRow, standIns := [], harness := (true, "90d851a20f0b31559df1415bb56a44017179b3235c529a6680d0c18b3c58d396"), looks := false }, kinds := [], alts := [], laidByText := true, laidKinds := [.data, .pinned], laidTests := true, laidLooks := .later }
def FnWiresBentUptoCardSaid : Prop := Claim7.holds Tryd.pinned (.plain (OpenSpec.upto fnWiresBentSpec)) fnWiresBentUptoCard

/-- THE SECOND FORM's CARD OF 'laws.FnExactGetName'. -/
def fnExactGetNameUptoCard : Claim7 := { stood := { row := fnExactGetNameUptoRow, standIns := [], harness := (true, "90d851a20f0b31559df1415bb56a44017179b3235c529a6680d0c18b3c58d396"), looks := false }, kinds := [], alts := [], laidByText := true, laidKinds := [.data, .pinned], laidTests := true, laidLooks := .later }
def FnExactGetNameUptoCardSaid : Prop := Claim7.holds Tryd.pinned (.plain (OpenSpec.upto fnExactGetNameSpec)) fnExactGetNameUptoCard

/-- THE SECOND FORM's CARD OF 'laws.FnExactPutPlain'. -/
def fnExactPutPlainUptoCard : Claim7 := { stood := { row := fnExactPutPlainUptoRow, standIns := [], harness := (true, "90d851a20f0b31559df1415bb56a44017179b3235c529a6680d0c18b3c58d396"), looks := false }, kinds := [], alts := [], laidByText := true, laidKinds := [.data, .pinned], laidTests := true, laidLooks := .later }
def FnExactPutPlainUptoCardSaid : Prop := Claim7.holds Tryd.pinned (.plain (OpenSpec.upto fnExactPutPlainSpec)) fnExactPutPlainUptoCard

/-- THE SECOND FORM's CARD OF 'laws.FnExactPlaceOf'. -/
def fnExactPlaceOfUptoCard : Claim7 := { stood := { row := fnExactPlaceOfUptoRow, standIns := [], harness := (true, "90d851a20f0b31559df1415bb56a44017179b3235c529a6680d0c18b3c58d396"), looks := false }, kinds := [], alts := [], laidByText := true, laidKinds := [.data, .pinned], laidTests := true, laidLooks := .later }
def FnExactPlaceOfUptoCardSaid : Prop := Claim7.holds Tryd.pinned (.plain (OpenSpec.upto fnExactPlaceOfSpec)) fnExactPlaceOfUptoCard

/-- THE SECOND FORM's CARD OF 'laws.FnExactPutName'. -/
def fnExactPutNameUptoCard : Claim7 := { stood := { row := fnExactPutNameUptoRow, standIns := [], harness := (true, "90d851a20f0b31559df1415bb56a44017179b3235c529a6680d0c18b3c58d396"), looks := false }, kinds := [], alts := [], laidByText := true, laidKinds := [.data, .pinned], laidTests := true, laidLooks := .later }
def FnExactPutNameUptoCardSaid : Prop := Claim7.holds Tryd.pinned (.plain (OpenSpec.upto fnExactPutNameSpec)) fnExactPutNameUptoCard

/-- THE SECOND FORM's CARD OF 'laws.FnExactJumpsIn'. -/
def fnExactJumpsInUptoCard : Claim7 := { stood := { row := fnExactJumpsInUptoRow, standIns := [], harness := (true, "90d851a20f0b31559df1415bb56a44017179b3235c529a6680d0c18b3c58d396"), looks := false }, kinds := [], alts := [], laidByText := true, laidKinds := [.data, .pinned], laidTests := true, laidLooks := .later }
def FnExactJumpsInUptoCardSaid : Prop := Claim7.holds Tryd.pinned (.plain (OpenSpec.upto fnExactJumpsInSpec)) fnExactJumpsInUptoCard
end Rows
end Go.Proofs.YtpjkfionhjbjiaaDoor
