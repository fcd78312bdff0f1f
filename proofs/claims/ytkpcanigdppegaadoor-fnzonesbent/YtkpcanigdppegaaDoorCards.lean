/-
  DERIVED. GIVEN WITH THE SEED: THE CARDS: each row of YtkpcanigdppegaaDoorRows.lean that lists a variable, with what it lists TIED to the program's text (the seventh form; the later family's looks); each row that meets fmt, with fmt's text TOLD by the authors' own Lean function (tested against real Go, not proved from fmt's source: count such statements apart). THE CARD IS WHAT COUNTS. Prove the row's statement (the work); the ties are given (YtkpcanigdppegaaDoorTie.lean); close each card by the builder's one call (the guide's Derived/Test/ToyasCard.lean, 'card_holds'). Laid BY PROGRAM, IN A SANDBOX (cutbox-door.mjs). By AI agents, Wed Nov 11 2026. No macro, syntax, notation, axiom, sorry.
-/
import Derived.Test.YtkpcanigdppegaaDoorRows
import GoSem.ClaimSeven
namespace Go.Proofs.YtkpcanigdppegaaDoor
namespace Rows

/-- THE TIED CARD OF 'laws.FnZones'. -/
def fnZonesCard : Claim7 := { stood := { row := fnZonesRow, standIns := [], harness := (true, "51336ebd8c1b2620d33d74617e0ca3042eff8dc8376ea767c0d208afbf9583a2"), looks := false }, kinds := [], alts := [], laidByText := true, laidKinds := [.data, .pinned], laidTests := true, laidLooks := .later }
def FnZonesCardSaid : Prop := Claim7.holds Tryd.pinned (.plain (OpenSpec.ofChange fnZonesSpec)) fnZonesCard

/-- THE TIED CARD OF 'laws.FnZonesBent'. -/
def fnZonesBentCard : Claim7 := { stood := { row := fnZonesBentRow, standIns := [], harness := (true, "51336ebd8c1b2620d33d74617e0ca3042eff8dc8376ea767c0d208afbf9583a2"), looks := false }, kinds := [], alts := [], laidByText := true, laidKinds := [.data, .pinned], laidTests := true, laidLooks := .later }
def FnZonesBentCardSaid : Prop := Claim7.holds Tryd.pinned (.plain (OpenSpec.ofChange fnZonesBentSpec)) fnZonesBentCard

/-- THE TIED CARD OF 'laws.FnExactZoneOk'. -/
def fnExactZoneOkCard : Claim7 := { stood := { row := fnExactZoneOkRow, standIns := [], harness := (true, "51336ebd8c1b2620d33d74617e0ca3042eff8dc8376ea767c0d208afbf9583a2"), looks := false }, kinds := [], alts := [], laidByText := true, laidKinds := [.data, .pinned], laidTests := true, laidLooks := .later }
def FnExactZoneOkCardSaid : Prop := Claim7.holds Tryd.pinned (.plain (OpenSpec.ofChange fnExactZoneOkSpec)) fnExactZoneOkCard

/-- THE SECOND FORM's CARD OF 'laws.FnZones'. -/
def fnZonesUptoCard : Claim7 := { stood := { row := fnZonesUptoRow, standIns := [], harness := (true, "51336ebd8c1b2620d33d74617e0ca3042eff8dc8376ea767c0d208afbf9583a2"), looks := false }, kinds := [], alts := [], laidByText := true, laidKinds := [.data, .pinned], laidTests := true, laidLooks := .later }
def FnZonesUptoCardSaid : Prop := Claim7.holds Tryd.pinned (.plain (OpenSpec.upto fnZonesSpec)) fnZonesUptoCard

/-- THE SECOND FORM's CARD OF 'laws.FnZonesBent'. -/
def fnZonesBentUptoCard : Claim7 := { stood := { row := fnZonesBentUptoRow, standIns := [], harness := (true, "51336ebd8c1b2620d33d74617e0ca3042eff8dc8376ea767c0d208afbf9583a2"), looks := false }, kinds := [], alts := [], laidByText := true, laidKinds := [.data, .pinned], laidTests := true, laidLooks := .later }
def FnZonesBentUptoCardSaid : Prop := Claim7.holds Tryd.pinned (.plain (OpenSpec.upto fnZonesBentSpec)) fnZonesBentUptoCard

/-- THE SECOND FORM's CARD OF 'laws.FnExactZoneOk'. -/
def fnExactZoneOkUptoCard : Claim7 := { stood := { row := fnExactZoneOkUptoRow, standIns := [], harness := (true, "51336ebd8c1b2620d33d74617e0ca3042eff8dc8376ea767c0d208afbf9583a2"), looks := false }, kinds := [], alts := [], laidByText := true, laidKinds := [.data, .pinned], laidTests := true, laidLooks := .later }
def FnExactZoneOkUptoCardSaid : Prop := Claim7.holds Tryd.pinned (.plain (OpenSpec.upto fnExactZoneOkSpec)) fnExactZoneOkUptoCard
end Rows
end Go.Proofs.YtkpcanigdppegaaDoor
