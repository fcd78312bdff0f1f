/-
  DERIVED. GIVEN WITH THE SEED: THE CARDS: each row of YtnjdgdpkodpoiaaDoorRows.lean that lists a variable, with what it lists TIED to the program's text (the seventh form; the later family's looks); each row that meets fmt, with fmt's text TOLD by the authors' own Lean function (tested against real Go, not proved from fmt's source: count such statements apart). THE CARD IS WHAT COUNTS. Prove the row's statement (the work); the ties are given (YtnjdgdpkodpoiaaDoorTie.lean); close each card by the builder's one call (the guide's Derived/Test/ToyasCard.lean, 'card_holds'). Laid BY PROGRAM, IN A SANDBOX (cutbox-door.mjs). By AI agents, Wed Nov 11 2026. No macro, syntax, notation, axiom, sorry.
-/
import Derived.Test.YtnjdgdpkodpoiaaDoorRows
import GoSem.ClaimSeven
namespace Go.Proofs.YtnjdgdpkodpoiaaDoor
namespace Rows

/-- THE TIED CARD OF 'laws.FnJoins'. -/
def fnJoinsCard : Claim7 := { stood := { row := fnJoinsRow, standIns := [], harness := (true, "69104b5c74d9a16441185a6a9aa403e902054120a7953390bd563c8cd681961f"), looks := false }, kinds := [], alts := [], laidByText := true, laidKinds := [.data, .pinned], laidTests := true, laidLooks := .later }
def FnJoinsCardSaid : Prop := Claim7.holds Tryd.pinned (.plain (OpenSpec.ofChange fnJoinsSpec)) fnJoinsCard

/-- THE TIED CARD OF 'laws.FnExactLabels'. -/
def fnExactLabelsCard : Claim7 := { stood := { row := fnExactLabelsRow, standIns := [], harness := (true, "69104b5c74d9a16441185a6a9aa403e902054120a7953390bd563c8cd681961f"), looks := false }, kinds := [], alts := [], laidByText := true, laidKinds := [.data, .pinned], laidTests := true, laidLooks := .later }
def FnExactLabelsCardSaid : Prop := Claim7.holds Tryd.pinned (.plain (OpenSpec.ofChange fnExactLabelsSpec)) fnExactLabelsCard

/-- THE SECOND FORM's CARD OF 'laws.FnJoins'. -/
def fnJoinsUptoCard : Claim7 := { stood := { row := fnJoinsUptoRow, standIns := [], harness := (true, "69104b5c74d9a16441185a6a9aa403e902054120a7953390bd563c8cd681961f"), looks := false }, kinds := [], alts := [], laidByText := true, laidKinds := [.data, .pinned], laidTests := true, laidLooks := .later }
def FnJoinsUptoCardSaid : Prop := Claim7.holds Tryd.pinned (.plain (OpenSpec.upto fnJoinsSpec)) fnJoinsUptoCard

/-- THE SECOND FORM's CARD OF 'laws.FnExactLabels'. -/
def fnExactLabelsUptoCard : Claim7 := { stood := { row := fnExactLabelsUptoRow, standIns := [], harness := (true, "69104b5c74d9a16441185a6a9aa403e902054120a7953390bd563c8cd681961f"), looks := false }, kinds := [], alts := [], laidByText := true, laidKinds := [.data, .pinned], laidTests := true, laidLooks := .later }
def FnExactLabelsUptoCardSaid : Prop := Claim7.holds Tryd.pinned (.plain (OpenSpec.upto fnExactLabelsSpec)) fnExactLabelsUptoCard
end Rows
end Go.Proofs.YtnjdgdpkodpoiaaDoor
