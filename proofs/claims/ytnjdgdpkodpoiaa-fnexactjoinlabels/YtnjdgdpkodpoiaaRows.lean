/-
  No cell of these rows narrows 'for every input' (looked for: loops, veiled, ifaces, maps, wideKeys, modest, calm, conditions, laid).
  DERIVED. THE GIVEN ROWS OF THIS SEAT. 6 by the template 'for every input the law returns true; each argument reads behind the call as it read before'; 0 by the template 'total and deterministic' (their statements: YtnjdgdpkodpoiaaTotals.lean).
  GIVEN WITH THE SEED: the statements are not yours to turn. If you find one false, say at which input.
  Laid BY PROGRAM, IN A SANDBOX (cutbox-rows.mjs): the forced cells as the released guide's own fill.sh prints them over the translation da92dcc49096eeed… (all of the seat's roots in one cut). By AI agents, Wed Nov 11 2026. No macro, syntax, notation, axiom, sorry.
-/
import Derived.Test.YtnjdgdpkodpoiaaChecked
import GoSem.Claim
import GoSem.ClaimJoined
import GoSem.ClaimMapViews
import Derived.JoinedTies
import Derived.KernelRfl
namespace Go.Proofs.Ytnjdgdpkodpoiaa
/- THE CELL 'sum', in the pinned program and in every row, IS THE sha256 OF THE DUMP (.gsa) THAT YtnjdgdpkodpoiaaProg.lean LOADS. Nothing in Lean hashes anything: it is a label: what it is worth is what the hold of that sum in a sandbox is worth. -/
noncomputable def Try.pinned : Pinned := { name := "ytnjdgdpkodpoiaa", sum := "da92dcc49096eeedd30b2c9418ae7fbdeec5bbaeec863c5799897d3d45d9984c", checked := Try.checked }
namespace Rows
def none {H : Type} : Left H := { results := [], args := [] }

/-- 'laws.FnLabels': WHATEVER THE INPUT: true; the input reads as it did. -/
def fnLabelsSpec : ChangeSpec := { name := "fnLabels", fn := fun _ => fun
  | [d] => { results := [.lit (.bool true)], args := [d] }
  | _ => none }
def fnLabelsRow : OpenClaim := { program := "ytnjdgdpkodpoiaa", sum := "da92dcc49096eeedd30b2c9418ae7fbdeec5bbaeec863c5799897d3d45d9984c", func := "loop.example/g00497/laws.FnLabels", spec := "fnLabels", apart := false }
def FnLabelsSaid : Prop := fnLabelsRow.holds Try.pinned (OpenSpec.ofChange fnLabelsSpec)

/-- ITS FALSE NEIGHBOUR: 'it returns false'. Refute it at one input. -/
def fnLabelsWrong : ChangeSpec := { name := "fnLabels", fn := fun _ => fun
  | [d] => { results := [.lit (.bool false)], args := [d] }
  | _ => none }
def FnLabelsWrongFalsely : Prop := fnLabelsRow.holds Try.pinned (OpenSpec.ofChange fnLabelsWrong)

/-- 'laws.FnExactLabelOk': WHATEVER THE INPUT: true; the input reads as it did. -/
def fnExactLabelOkSpec : ChangeSpec := { name := "fnExactLabelOk", fn := fun _ => fun
  | [d] => { results := [.lit (.bool true)], args := [d] }
  | _ => none }
def fnExactLabelOkRow : OpenClaim := { program := "ytnjdgdpkodpoiaa", sum := "da92dcc49096eeedd30b2c9418ae7fbdeec5bbaeec863c5799897d3d45d9984c", func := "loop.example/g00497/laws.FnExactLabelOk", spec := "fnExactLabelOk", apart := false }
def FnExactLabelOkSaid : Prop := fnExactLabelOkRow.holds Try.pinned (OpenSpec.ofChange fnExactLabelOkSpec)

/-- ITS FALSE NEIGHBOUR: 'it returns false'. Refute it at one input. -/
def fnExactLabelOkWrong : ChangeSpec := { name := "fnExactLabelOk", fn := fun _ => fun
  | [d] => { results := [.lit (.bool false)], args := [d] }
  | _ => none }
def FnExactLabelOkWrongFalsely : Prop := fnExactLabelOkRow.holds Try.pinned (OpenSpec.ofChange fnExactLabelOkWrong)

/-- 'laws.FnExactFold': WHATEVER THE INPUT: true; the input reads as it did. -/
def fnExactFoldSpec : ChangeSpec := { name := "fnExactFold", fn := fun _ => fun
  | [d] => { results := [.lit (.bool true)], args := [d] }
  | _ => none }
def fnExactFoldRow : OpenClaim := { program := "ytnjdgdpkodpoiaa", sum := "da92dcc49096eeedd30b2c9418ae7fbdeec5bbaeec863c5799897d3d45d9984c", func := "loop.example/g00497/laws.FnExactFold", spec := "fnExactFold", apart := false }
def FnExactFoldSaid : Prop := fnExactFoldRow.holds Try.pinned (OpenSpec.ofChange fnExactFoldSpec)

/-- ITS FALSE NEIGHBOUR: 'it returns false'. Refute it at one input. -/
def fnExactFoldWrong : ChangeSpec := { name := "fnExactFold", fn := fun _ => fun
  | [d] => { results := [.lit (.bool false)], args := [d] }
  | _ => none }
def FnExactFoldWrongFalsely : Prop := fnExactFoldRow.holds Try.pinned (OpenSpec.ofChange fnExactFoldWrong)

/-- 'laws.FnExactPutLabel': WHATEVER THE INPUT: true; the input reads as it did. -/
def fnExactPutLabelSpec : ChangeSpec := { name := "fnExactPutLabel", fn := fun _ => fun
  | [d1, d2] => { results := [.lit (.bool true)], args := [d1, d2] }
  | _ => none }
def fnExactPutLabelRow : OpenClaim := { program := "ytnjdgdpkodpoiaa", sum := "da92dcc49096eeedd30b2c9418ae7fbdeec5bbaeec863c5799897d3d45d9984c", func := "loop.example/g00497/laws.FnExactPutLabel", spec := "fnExactPutLabel", apart := false }
def FnExactPutLabelSaid : Prop := fnExactPutLabelRow.holds Try.pinned (OpenSpec.ofChange fnExactPutLabelSpec)

/-- ITS FALSE NEIGHBOUR: 'it returns false'. Refute it at one input. -/
def fnExactPutLabelWrong : ChangeSpec := { name := "fnExactPutLabel", fn := fun _ => fun
  | [d1, d2] => { results := [.lit (.bool false)], args := [d1, d2] }
  | _ => none }
def FnExactPutLabelWrongFalsely : Prop := fnExactPutLabelRow.holds Try.pinned (OpenSpec.ofChange fnExactPutLabelWrong)

/-- 'laws.FnExactGetLabel': WHATEVER THE INPUT: true; the input reads as it did. -/
def fnExactGetLabelSpec : ChangeSpec := { name := "fnExactGetLabel", fn := fun _ => fun
  | [d1, d2] => { results := [.lit (.bool true)], args := [d1, d2] }
  | _ => none }
def fnExactGetLabelRow : OpenClaim := { program := "ytnjdgdpkodpoiaa", sum := "da92dcc49096eeedd30b2c9418ae7fbdeec5bbaeec863c5799897d3d45d9984c", func := "loop.example/g00497/laws.FnExactGetLabel", spec := "fnExactGetLabel", apart := false }
def FnExactGetLabelSaid : Prop := fnExactGetLabelRow.holds Try.pinned (OpenSpec.ofChange fnExactGetLabelSpec)

/-- ITS FALSE NEIGHBOUR: 'it returns false'. Refute it at one input. -/
def fnExactGetLabelWrong : ChangeSpec := { name := "fnExactGetLabel", fn := fun _ => fun
  | [d1, d2] => { results := [.lit (.bool false)], args := [d1, d2] }
  | _ => none }
def FnExactGetLabelWrongFalsely : Prop := fnExactGetLabelRow.holds Try.pinned (OpenSpec.ofChange fnExactGetLabelWrong)

/-- 'laws.FnExactJoinLabels': WHATEVER THE INPUT: true; the input reads as it did. -/
def fnExactJoinLabelsSpec : ChangeSpec := { name := "fnExactJoinLabels", fn := fun _ => fun
  | [d] => { results := [.lit (.bool true)], args := [d] }
  | _ => none }
def fnExactJoinLabelsRow : OpenClaim := { program := "ytnjdgdpkodpoiaa", sum := "da92dcc49096eeedd30b2c9418ae7fbdeec5bbaeec863c5799897d3d45d9984c", func := "loop.example/g00497/laws.FnExactJoinLabels", spec := "fnExactJoinLabels", inPlace := ["internal/abi.NoEscape", "internal/bytealg.MakeNoZero"], apart := false }
def FnExactJoinLabelsSaid : Prop := fnExactJoinLabelsRow.holds Try.pinned (OpenSpec.ofChange fnExactJoinLabelsSpec)

/-- ITS FALSE NEIGHBOUR: 'it returns false'. Refute it at one input. -/
def fnExactJoinLabelsWrong : ChangeSpec := { name := "fnExactJoinLabels", fn := fun _ => fun
  | [d] => { results := [.lit (.bool false)], args := [d] }
  | _ => none }
def FnExactJoinLabelsWrongFalsely : Prop := fnExactJoinLabelsRow.holds Try.pinned (OpenSpec.ofChange fnExactJoinLabelsWrong)

/- THE SECOND FORM. 'bulk': how many values and letters a reading holds, each counted each time it is reached (what is shared counts as often as it is met; a slice's spare places count too). A statement '..UptoSaid' is the law's where the arguments, and the package variables that the reading takes, are together of bulk at most 1048576: NARROWER than '..Said'. Prove '..Said' where nothing that the law and all that it calls make is longer than what came in: it says more and counts as full. Else prove '..UptoSaid'. A law counts once. -/
mutual
def uptoBulk {H : Type} : DataW H → Nat
  | .lit (.string bytes) => bytes.length + 1
  | .lit _ => 1
  | .nil => 1
  | .ptr d => uptoBulk d + 1
  | .slice elems spare => uptoBulkAll elems + uptoBulkAll spare + 1
  | .agg parts => uptoBulkAll parts + 1
  | .iface _ d => uptoBulk d + 1
  | .map entries => uptoBulkEntries entries + 1
  | .held _ => 1
def uptoBulkAll {H : Type} : List (DataW H) → Nat
  | [] => 0
  | d :: r => uptoBulk d + uptoBulkAll r
def uptoBulkEntries {H : Type} : List (Lit × DataW H) → Nat
  | [] => 0
  | x :: r => uptoBulkEntry x + uptoBulkEntries r
def uptoBulkEntry {H : Type} : Lit × DataW H → Nat
  | (.string bytes, d) => bytes.length + uptoBulk d + 1
  | (_, d) => uptoBulk d + 1
 end
def uptoSmall : (H : Type) → List (DataW H) → Bool := fun _ ds => decide (uptoBulkAll ds ≤ 1048576)
def OpenSpec.upto (s : _root_.Go.ChangeSpec) : _root_.Go.OpenSpec := { _root_.Go.OpenSpec.ofChange s with cond := some uptoSmall }

/-- 'laws.FnLabels', WHERE WHAT IT READS IS OF BULK AT MOST 1048576: true; the input reads as it did. -/
def fnLabelsUptoRow : OpenClaim := { program := "ytnjdgdpkodpoiaa", sum := "da92dcc49096eeedd30b2c9418ae7fbdeec5bbaeec863c5799897d3d45d9984c", func := "loop.example/g00497/laws.FnLabels", spec := "fnLabels", apart := false, narrowed := true }
def FnLabelsUptoSaid : Prop := fnLabelsUptoRow.holds Try.pinned (OpenSpec.upto fnLabelsSpec)

/-- 'laws.FnExactLabelOk', WHERE WHAT IT READS IS OF BULK AT MOST 1048576: true; the input reads as it did. -/
def fnExactLabelOkUptoRow : OpenClaim := { program := "ytnjdgdpkodpoiaa", sum := "da92dcc49096eeedd30b2c9418ae7fbdeec5bbaeec863c5799897d3d45d9984c", func := "loop.example/g00497/laws.FnExactLabelOk", spec := "fnExactLabelOk", apart := false, narrowed := true }
def FnExactLabelOkUptoSaid : Prop := fnExactLabelOkUptoRow.holds Try.pinned (OpenSpec.upto fnExactLabelOkSpec)

/-- 'laws.FnExactFold', WHERE WHAT IT READS IS OF BULK AT MOST 1048576: true; the input reads as it did. -/
def fnExactFoldUptoRow : OpenClaim := { program := "ytnjdgdpkodpoiaa", sum := "da92dcc49096eeedd30b2c9418ae7fbdeec5bbaeec863c5799897d3d45d9984c", func := "loop.example/g00497/laws.FnExactFold", spec := "fnExactFold", apart := false, narrowed := true }
def FnExactFoldUptoSaid : Prop := fnExactFoldUptoRow.holds Try.pinned (OpenSpec.upto fnExactFoldSpec)

/-- 'laws.FnExactPutLabel', WHERE WHAT IT READS IS OF BULK AT MOST 1048576: true; the input reads as it did. -/
def fnExactPutLabelUptoRow : OpenClaim := { program := "ytnjdgdpkodpoiaa", sum := "da92dcc49096eeedd30b2c9418ae7fbdeec5bbaeec863c5799897d3d45d9984c", func := "loop.example/g00497/laws.FnExactPutLabel", spec := "fnExactPutLabel", apart := false, narrowed := true }
def FnExactPutLabelUptoSaid : Prop := fnExactPutLabelUptoRow.holds Try.pinned (OpenSpec.upto fnExactPutLabelSpec)

/-- 'laws.FnExactGetLabel', WHERE WHAT IT READS IS OF BULK AT MOST 1048576: true; the input reads as it did. -/
def fnExactGetLabelUptoRow : OpenClaim := { program := "ytnjdgdpkodpoiaa", sum := "da92dcc49096eeedd30b2c9418ae7fbdeec5bbaeec863c5799897d3d45d9984c", func := "loop.example/g00497/laws.FnExactGetLabel", spec := "fnExactGetLabel", apart := false, narrowed := true }
def FnExactGetLabelUptoSaid : Prop := fnExactGetLabelUptoRow.holds Try.pinned (OpenSpec.upto fnExactGetLabelSpec)

/-- 'laws.FnExactJoinLabels', WHERE WHAT IT READS IS OF BULK AT MOST 1048576: true; the input reads as it did. -/
def fnExactJoinLabelsUptoRow : OpenClaim := { program := "ytnjdgdpkodpoiaa", sum := "da92dcc49096eeedd30b2c9418ae7fbdeec5bbaeec863c5799897d3d45d9984c", func := "loop.example/g00497/laws.FnExactJoinLabels", spec := "fnExactJoinLabels", inPlace := ["internal/abi.NoEscape", "internal/bytealg.MakeNoZero"], apart := false, narrowed := true }
def FnExactJoinLabelsUptoSaid : Prop := fnExactJoinLabelsUptoRow.holds Try.pinned (OpenSpec.upto fnExactJoinLabelsSpec)

end Rows
end Go.Proofs.Ytnjdgdpkodpoiaa
