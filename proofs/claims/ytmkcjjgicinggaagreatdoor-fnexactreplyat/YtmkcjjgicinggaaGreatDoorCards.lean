/-
  DERIVED. GIVEN WITH THE SEED: THE CARDS: each row of YtmkcjjgicinggaaGreatDoorRows.lean that lists a variable, with what it lists TIED to the program's text (the seventh form; the later family's looks); each row that meets fmt, with fmt's text TOLD by the authors' own Lean function (tested against real Go, not proved from fmt's source: count such statements apart). THE CARD IS WHAT COUNTS. Prove the row's statement (the work); the ties are given (YtmkcjjgicinggaaGreatDoorTie.lean); close each card by the builder's one call (the guide's Derived/Test/ToyasCard.lean, 'card_holds'). Laid BY PROGRAM, IN A SANDBOX (cutbox-door.mjs). By AI agents, Wed Nov 11 2026. No macro, syntax, notation, axiom, sorry.
-/
import Derived.Test.YtmkcjjgicinggaaGreatDoorRows
import GoSem.ClaimSeven
namespace Go.Proofs.YtmkcjjgicinggaaGreatDoor
namespace Rows

/-- THE TIED CARD OF 'laws.FnForests'. -/
def fnForestsCard : Claim7 := { stood := { row := fnForestsRow, standIns := [], harness := (true, "fb7f966e8a59e4e3861763e8332139b69a56e2dfad79ba28a98c6e9d0a8be63f"), looks := false }, kinds := [], alts := [], laidByText := true, laidKinds := [.data, .pinned], laidTests := true, laidLooks := .later }
def FnForestsCardSaid : Prop := Claim7.holds Tryz.pinned (.plain (OpenSpec.ofChange fnForestsSpec)) fnForestsCard

/-- THE TIED CARD OF 'laws.FnForestsBent'. -/
def fnForestsBentCard : Claim7 := { stood := { row := fnForestsBentRow, standIns := [], harness := (true, "fb7f966e8a59e4e3861763e8332139b69a56e2dfad79ba28a98c6e9d0a8be63f"), looks := false }, kinds := [], alts := [], laidByText := true, laidKinds := [.data, .pinned], laidTests := true, laidLooks := .later }
def FnForestsBentCardSaid : Prop := Claim7.holds Tryz.pinned (.plain (OpenSpec.ofChange fnForestsBentSpec)) fnForestsBentCard

/-- THE TIED CARD OF 'laws.FnExactAddrsOf'. -/
def fnExactAddrsOfCard : Claim7 := { stood := { row := fnExactAddrsOfRow, standIns := [], harness := (true, "fb7f966e8a59e4e3861763e8332139b69a56e2dfad79ba28a98c6e9d0a8be63f"), looks := false }, kinds := [], alts := [], laidByText := true, laidKinds := [.data, .pinned], laidTests := true, laidLooks := .later }
def FnExactAddrsOfCardSaid : Prop := Claim7.holds Tryz.pinned (.plain (OpenSpec.ofChange fnExactAddrsOfSpec)) fnExactAddrsOfCard

/-- THE TIED CARD OF 'laws.FnExactReplyAt'. -/
def fnExactReplyAtCard : Claim7 := { stood := { row := fnExactReplyAtRow, standIns := [], harness := (true, "fb7f966e8a59e4e3861763e8332139b69a56e2dfad79ba28a98c6e9d0a8be63f"), looks := false }, kinds := [], alts := [], laidByText := true, laidKinds := [.data, .pinned], laidTests := true, laidLooks := .later }
def FnExactReplyAtCardSaid : Prop := Claim7.holds Tryz.pinned (.plain (OpenSpec.ofChange fnExactReplyAtSpec)) fnExactReplyAtCard

/-- THE TIED CARD OF 'laws.FnExactForestOk'. -/
def fnExactForestOkCard : Claim7 := { stood := { row := fnExactForestOkRow, standIns := [], harness := (true, "fb7f966e8a59e4e3861763e8332139b69a56e2dfad79ba28a98c6e9d0a8be63f"), looks := false }, kinds := [], alts := [], laidByText := true, laidKinds := [.data, .pinned], laidTests := true, laidLooks := .later }
def FnExactForestOkCardSaid : Prop := Claim7.holds Tryz.pinned (.plain (OpenSpec.ofChange fnExactForestOkSpec)) fnExactForestOkCard

/-- THE SECOND FORM's CARD OF 'laws.FnForests'. -/
def fnForestsUptoCard : Claim7 := { stood := { row := fnForestsUptoRow, standIns := [], harness := (true, "fb7f966e8a59e4e3861763e8332139b69a56e2dfad79ba28a98c6e9d0a8be63f"), looks := false }, kinds := [], alts := [], laidByText := true, laidKinds := [.data, .pinned], laidTests := true, laidLooks := .later }
def FnForestsUptoCardSaid : Prop := Claim7.holds Tryz.pinned (.plain (OpenSpec.upto fnForestsSpec)) fnForestsUptoCard

/-- THE SECOND FORM's CARD OF 'laws.FnForestsBent'. -/
def fnForestsBentUptoCard : Claim7 := { stood := { row := fnForestsBentUptoRow, standIns := [], harness := (true, "fb7f966e8a59e4e3861763e8332139b69a56e2dfad79ba28a98c6e9d0a8be63f"), looks := false }, kinds := [], alts := [], laidByText := true, laidKinds := [.data, .pinned], laidTests := true, laidLooks := .later }
def FnForestsBentUptoCardSaid : Prop := Claim7.holds Tryz.pinned (.plain (OpenSpec.upto fnForestsBentSpec)) fnForestsBentUptoCard

/-- THE SECOND FORM's CARD OF 'laws.FnExactAddrsOf'. -/
def fnExactAddrsOfUptoCard : Claim7 := { stood := { row := fnExactAddrsOfUptoRow, standIns := [], harness := (true, "fb7f966e8a59e4e3861763e8332139b69a56e2dfad79ba28a98c6e9d0a8be63f"), looks := false }, kinds := [], alts := [], laidByText := true, laidKinds := [.data, .pinned], laidTests := true, laidLooks := .later }
def FnExactAddrsOfUptoCardSaid : Prop := Claim7.holds Tryz.pinned (.plain (OpenSpec.upto fnExactAddrsOfSpec)) fnExactAddrsOfUptoCard

/-- THE SECOND FORM's CARD OF 'laws.FnExactReplyAt'. -/
def fnExactReplyAtUptoCard : Claim7 := { stood := { row := fnExactReplyAtUptoRow, standIns := [], harness := (true, "fb7f966e8a59e4e3861763e8332139b69a56e2dfad79ba28a98c6e9d0a8be63f"), looks := false }, kinds := [], alts := [], laidByText := true, laidKinds := [.data, .pinned], laidTests := true, laidLooks := .later }
def FnExactReplyAtUptoCardSaid : Prop := Claim7.holds Tryz.pinned (.plain (OpenSpec.upto fnExactReplyAtSpec)) fnExactReplyAtUptoCard

/-- THE SECOND FORM's CARD OF 'laws.FnExactForestOk'. -/
def fnExactForestOkUptoCard : Claim7 := { stood := { row := fnExactForestOkUptoRow, standIns := [], harness := (true, "fb7f966e8a59e4e3861763e8332139b69a56e2dfad79ba28a98c6e9d0a8be63f"), looks := false }, kinds := [], alts := [], laidByText := true, laidKinds := [.data, .pinned], laidTests := true, laidLooks := .later }
def FnExactForestOkUptoCardSaid : Prop := Claim7.holds Tryz.pinned (.plain (OpenSpec.upto fnExactForestOkSpec)) fnExactForestOkUptoCard
end Rows
end Go.Proofs.YtmkcjjgicinggaaGreatDoor
