/-
  DERIVED. GIVEN WITH THE SEED: THE CARDS: each row of YtkfibepejlgniaaDoorRows.lean that lists a variable, with what it lists TIED to the program's text (the seventh form; the later family's looks); each row that meets fmt, with fmt's text TOLD by the authors' own Lean function (tested against real Go, not proved from fmt's source: count such statements apart). THE CARD IS WHAT COUNTS. Prove the row's statement (the work); the ties are given (YtkfibepejlgniaaDoorTie.lean); close each card by the builder's one call (the guide's Derived/Test/ToyasCard.lean, 'card_holds'). Laid BY PROGRAM, IN A SANDBOX (cutbox-door.mjs). By AI agents, Wed Nov 11 2026. No macro, syntax, notation, axiom, sorry.
-/
import Derived.Test.YtkfibepejlgniaaDoorRows
import GoSem.ClaimSeven
namespace Go.Proofs.YtkfibepejlgniaaDoor
namespace Rows

/-- THE TIED CARD OF 'laws.FnExactGetQuest'. -/
def fnExactGetQuestCard : Claim7 := { stood := { row := fnExactGetQuestRow, standIns := [], harness := (true, "5117f6314ed4fb16f5dbec89712539fac523b40509990b7be328704488508bb0"), looks := false }, kinds := [], alts := [], laidByText := true, laidKinds := [.data, .pinned], laidTests := true, laidLooks := .later }
def FnExactGetQuestCardSaid : Prop := Claim7.holds Tryd.pinned (.plain (OpenSpec.ofChange fnExactGetQuestSpec)) fnExactGetQuestCard

/-- THE SECOND FORM's CARD OF 'laws.FnExactGetQuest'. -/
def fnExactGetQuestUptoCard : Claim7 := { stood := { row := fnExactGetQuestUptoRow, standIns := [], harness := (true, "5117f6314ed4fb16f5dbec89712539fac523b40509990b7be328704488508bb0"), looks := false }, kinds := [], alts := [], laidByText := true, laidKinds := [.data, .pinned], laidTests := true, laidLooks := .later }
def FnExactGetQuestUptoCardSaid : Prop := Claim7.holds Tryd.pinned (.plain (OpenSpec.upto fnExactGetQuestSpec)) fnExactGetQuestUptoCard
end Rows
end Go.Proofs.YtkfibepejlgniaaDoor
