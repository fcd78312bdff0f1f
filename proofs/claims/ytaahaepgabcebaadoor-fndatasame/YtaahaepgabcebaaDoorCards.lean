/-
  DERIVED. GIVEN WITH THE SEED: THE CARDS: each row of YtaahaepgabcebaaDoorRows.lean that lists a variable, with what it lists TIED to the program's text (the seventh form; the later family's looks); each row that meets fmt, with fmt's text TOLD by the authors' own Lean function (tested against real Go, not proved from fmt's source: count such statements apart). THE CARD IS WHAT COUNTS. Prove the row's statement (the work); the ties are given (YtaahaepgabcebaaDoorTie.lean); close each card by the builder's one call (the guide's Derived/Test/ToyasCard.lean, 'card_holds'). Laid BY PROGRAM, IN A SANDBOX (cutbox-door.mjs). By AI agents, Wed Nov 11 2026. No macro, syntax, notation, axiom, sorry.
-/
import Derived.Test.YtaahaepgabcebaaDoorRows
import GoSem.ClaimSeven
namespace Go.Proofs.YtaahaepgabcebaaDoor
namespace Rows

/-- THE TIED CARD OF 'laws.FnDataSame'. -/
def fnDataSameCard : Claim7 := { stood := { row := fnDataSameRow, standIns := [], harness := (true, "5eb569fc4558d228b779114a9f0cd4ccc04dcb9ef7a6a20efd3f2bd7d230f8a5"), looks := false }, kinds := [], alts := [], laidByText := true, laidKinds := [.data, .pinned], laidTests := true, laidLooks := .later }
def FnDataSameCardSaid : Prop := Claim7.holds Tryd.pinned (.plain (OpenSpec.ofChange fnDataSameSpec)) fnDataSameCard

/-- THE SECOND FORM's CARD OF 'laws.FnDataSame'. -/
def fnDataSameUptoCard : Claim7 := { stood := { row := fnDataSameUptoRow, standIns := [], harness := (true, "5eb569fc4558d228b779114a9f0cd4ccc04dcb9ef7a6a20efd3f2bd7d230f8a5"), looks := false }, kinds := [], alts := [], laidByText := true, laidKinds := [.data, .pinned], laidTests := true, laidLooks := .later }
def FnDataSameUptoCardSaid : Prop := Claim7.holds Tryd.pinned (.plain (OpenSpec.upto fnDataSameSpec)) fnDataSameUptoCard
end Rows
end Go.Proofs.YtaahaepgabcebaaDoor
