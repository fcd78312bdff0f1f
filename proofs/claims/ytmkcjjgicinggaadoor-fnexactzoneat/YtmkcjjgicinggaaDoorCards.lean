/-
  DERIVED. GIVEN WITH THE SEED: THE CARDS: each row of YtmkcjjgicinggaaDoorRows.lean that lists a variable, with what it lists TIED to the program's text (the seventh form; the later family's looks); each row that meets fmt, with fmt's text TOLD by the authors' own Lean function (tested against real Go, not proved from fmt's source: count such statements apart). THE CARD IS WHAT COUNTS. Prove the row's statement (the work); the ties are given (YtmkcjjgicinggaaDoorTie.lean); close each card by the builder's one call (the guide's Derived/Test/ToyasCard.lean, 'card_holds'). Laid BY PROGRAM, IN A SANDBOX (cutbox-door.mjs). By AI agents, Wed Nov 11 2026. No macro, syntax, notation, axiom, sorry.
-/
import Derived.Test.YtmkcjjgicinggaaDoorRows
import GoSem.ClaimSeven
namespace Go.Proofs.YtmkcjjgicinggaaDoor
namespace Rows

/-- THE TIED CARD OF 'laws.FnExactZoneOf'. -/
def fnExactZoneOfCard : Claim7 := { stood := { row := fnExactZoneOfRow, standIns := [], harness := (true, "abac219a9258ebcf9b5e1db0ae748cc183175bd31f97276e388bea493d414fbe"), looks := false }, kinds := [], alts := [], laidByText := true, laidKinds := [.data, .pinned], laidTests := true, laidLooks := .later }
def FnExactZoneOfCardSaid : Prop := Claim7.holds Tryd.pinned (.plain (OpenSpec.ofChange fnExactZoneOfSpec)) fnExactZoneOfCard

/-- THE TIED CARD OF 'laws.FnExactZoneAt'. -/
def fnExactZoneAtCard : Claim7 := { stood := { row := fnExactZoneAtRow, standIns := [], harness := (true, "abac219a9258ebcf9b5e1db0ae748cc183175bd31f97276e388bea493d414fbe"), looks := false }, kinds := [], alts := [], laidByText := true, laidKinds := [.data, .pinned], laidTests := true, laidLooks := .later }
def FnExactZoneAtCardSaid : Prop := Claim7.holds Tryd.pinned (.plain (OpenSpec.ofChange fnExactZoneAtSpec)) fnExactZoneAtCard

/-- THE SECOND FORM's CARD OF 'laws.FnExactZoneOf'. -/
def fnExactZoneOfUptoCard : Claim7 := { stood := { row := fnExactZoneOfUptoRow, standIns := [], harness := (true, "abac219a9258ebcf9b5e1db0ae748cc183175bd31f97276e388bea493d414fbe"), looks := false }, kinds := [], alts := [], laidByText := true, laidKinds := [.data, .pinned], laidTests := true, laidLooks := .later }
def FnExactZoneOfUptoCardSaid : Prop := Claim7.holds Tryd.pinned (.plain (OpenSpec.upto fnExactZoneOfSpec)) fnExactZoneOfUptoCard

/-- THE SECOND FORM's CARD OF 'laws.FnExactZoneAt'. -/
def fnExactZoneAtUptoCard : Claim7 := { stood := { row := fnExactZoneAtUptoRow, standIns := [], harness := (true, "abac219a9258ebcf9b5e1db0ae748cc183175bd31f97276e388bea493d414fbe"), looks := false }, kinds := [], alts := [], laidByText := true, laidKinds := [.data, .pinned], laidTests := true, laidLooks := .later }
def FnExactZoneAtUptoCardSaid : Prop := Claim7.holds Tryd.pinned (.plain (OpenSpec.upto fnExactZoneAtSpec)) fnExactZoneAtUptoCard
end Rows
end Go.Proofs.YtmkcjjgicinggaaDoor
