/-
  DERIVED. GIVEN WITH THE SEED: THE CARDS: each row of YtmabbeefeipnaaaGreatDoorRows.lean that lists a variable, with what it lists TIED to the program's text (the seventh form; the later family's looks); each row that meets fmt, with fmt's text TOLD by the authors' own Lean function (tested against real Go, not proved from fmt's source: count such statements apart). THE CARD IS WHAT COUNTS. Prove the row's statement (the work); the ties are given (YtmabbeefeipnaaaGreatDoorTie.lean); close each card by the builder's one call (the guide's Derived/Test/ToyasCard.lean, 'card_holds'). Laid BY PROGRAM, IN A SANDBOX (cutbox-door.mjs). By AI agents, Wed Nov 11 2026. No macro, syntax, notation, axiom, sorry.
-/
import Derived.Test.YtmabbeefeipnaaaGreatDoorRows
import GoSem.ClaimSeven
namespace Go.Proofs.YtmabbeefeipnaaaGreatDoor
namespace Rows

/-- THE TIED CARD OF 'laws.FnServes'. -/
def fnServesCard : Claim7 := { stood := { row := fnServesRow, standIns := [], harness := (true, "f993f9c2514864b29bd8b96dc695471999ea8479057d26a0db86532c7993de09"), looks := false }, kinds := [], alts := [], laidByText := true, laidKinds := [.data, .pinned], laidTests := true, laidLooks := .later }
def FnServesCardSaid : Prop := Claim7.holds Tryz.pinned (.plain (OpenSpec.ofChange fnServesSpec)) fnServesCard

/-- THE SECOND FORM's CARD OF 'laws.FnServes'. -/
def fnServesUptoCard : Claim7 := { stood := { row := fnServesUptoRow, standIns := [], harness := (true, "f993f9c2514864b29bd8b96dc695471999ea8479057d26a0db86532c7993de09"), looks := false }, kinds := [], alts := [], laidByText := true, laidKinds := [.data, .pinned], laidTests := true, laidLooks := .later }
def FnServesUptoCardSaid : Prop := Claim7.holds Tryz.pinned (.plain (OpenSpec.upto fnServesSpec)) fnServesUptoCard
end Rows
end Go.Proofs.YtmabbeefeipnaaaGreatDoor
