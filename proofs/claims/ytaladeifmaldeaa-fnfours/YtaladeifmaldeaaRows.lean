/-
  No cell of these rows narrows 'for every input' (looked for: loops, veiled, ifaces, maps, wideKeys, modest, calm, conditions, laid).
  DERIVED. THE GIVEN ROWS OF THIS SEAT. 8 by the template 'for every input the law returns true; each argument reads behind the call as it read before'; 0 by the template 'total and deterministic' (their statements: YtaladeifmaldeaaTotals.lean).
  GIVEN WITH THE SEED: the statements are not yours to turn. If you find one false, say at which input.
  Laid BY PROGRAM, IN A SANDBOX (cutbox-rows.mjs): the forced cells as the released guide's own fill.sh prints them over the translation fd1362bb4742adcb… (all of the seat's roots in one cut). By AI agents, Wed Nov 11 2026. No macro, syntax, notation, axiom, sorry.
-/
import Derived.Test.YtaladeifmaldeaaChecked
import GoSem.Claim
import GoSem.ClaimJoined
import GoSem.ClaimMapViews
import Derived.JoinedTies
import Derived.KernelRfl
namespace Go.Proofs.Ytaladeifmaldeaa
/- THE CELL 'sum', in the pinned program and in every row, IS THE sha256 OF THE DUMP (.gsa) THAT YtaladeifmaldeaaProg.lean LOADS. Nothing in Lean hashes anything: it is a label: what it is worth is what the hold of that sum in a sandbox is worth. -/
noncomputable def Try.pinned : Pinned := { name := "ytaladeifmaldeaa", sum := "fd1362bb4742adcbdacae905c51bf560e4985171231e8a706614a77800b58b9b", checked := Try.checked }
namespace Rows
def none {H : Type} : Left H := { results := [], args := [] }

/-- 'laws.FnTwos': WHATEVER THE INPUT: true; the input reads as it did. -/
def fnTwosSpec : ChangeSpec := { name := "fnTwos", fn := fun _ => fun
  | [d] => { results := [.lit (.bool true)], args := [d] }
  | _ => none }
def fnTwosRow : OpenClaim := { program := "ytaladeifmaldeaa", sum := "fd1362bb4742adcbdacae905c51bf560e4985171231e8a706614a77800b58b9b", func := "loop.example/g00497/laws.FnTwos", spec := "fnTwos", apart := false }
def FnTwosSaid : Prop := fnTwosRow.holds Try.pinned (OpenSpec.ofChange fnTwosSpec)

/-- ITS FALSE NEIGHBOUR: 'it returns false'. Refute it at one input. -/
def fnTwosWrong : ChangeSpec := { name := "fnTwos", fn := fun _ => fun
  | [d] => { results := [.lit (.bool false)], args := [d] }
  | _ => none }
def FnTwosWrongFalsely : Prop := fnTwosRow.holds Try.pinned (OpenSpec.ofChange fnTwosWrong)

/-- 'laws.FnFours': WHATEVER THE INPUT: true; the input reads as it did. -/
def fnFoursSpec : ChangeSpec := { name := "fnFours", fn := fun _ => fun
  | [d] => { results := [.lit (.bool true)], args := [d] }
  | _ => none }
def fnFoursRow : OpenClaim := { program := "ytaladeifmaldeaa", sum := "fd1362bb4742adcbdacae905c51bf560e4985171231e8a706614a77800b58b9b", func := "loop.example/g00497/laws.FnFours", spec := "fnFours", apart := false }
def FnFoursSaid : Prop := fnFoursRow.holds Try.pinned (OpenSpec.ofChange fnFoursSpec)

/-- ITS FALSE NEIGHBOUR: 'it returns false'. Refute it at one input. -/
def fnFoursWrong : ChangeSpec := { name := "fnFours", fn := fun _ => fun
  | [d] => { results := [.lit (.bool false)], args := [d] }
  | _ => none }
def FnFoursWrongFalsely : Prop := fnFoursRow.holds Try.pinned (OpenSpec.ofChange fnFoursWrong)

/-- 'laws.FnExactPut2': WHATEVER THE INPUT: true; the input reads as it did. -/
def fnExactPut2Spec : ChangeSpec := { name := "fnExactPut2", fn := fun _ => fun
  | [d1, d2] => { results := [.lit (.bool true)], args := [d1, d2] }
  | _ => none }
def fnExactPut2Row : OpenClaim := { program := "ytaladeifmaldeaa", sum := "fd1362bb4742adcbdacae905c51bf560e4985171231e8a706614a77800b58b9b", func := "loop.example/g00497/laws.FnExactPut2", spec := "fnExactPut2", apart := false }
def FnExactPut2Said : Prop := fnExactPut2Row.holds Try.pinned (OpenSpec.ofChange fnExactPut2Spec)

/-- ITS FALSE NEIGHBOUR: 'it returns false'. Refute it at one input. -/
def fnExactPut2Wrong : ChangeSpec := { name := "fnExactPut2", fn := fun _ => fun
  | [d1, d2] => { results := [.lit (.bool false)], args := [d1, d2] }
  | _ => none }
def FnExactPut2WrongFalsely : Prop := fnExactPut2Row.holds Try.pinned (OpenSpec.ofChange fnExactPut2Wrong)

/-- 'laws.FnExactGet2': WHATEVER THE INPUT: true; the input reads as it did. -/
def fnExactGet2Spec : ChangeSpec := { name := "fnExactGet2", fn := fun _ => fun
  | [d1, d2] => { results := [.lit (.bool true)], args := [d1, d2] }
  | _ => none }
def fnExactGet2Row : OpenClaim := { program := "ytaladeifmaldeaa", sum := "fd1362bb4742adcbdacae905c51bf560e4985171231e8a706614a77800b58b9b", func := "loop.example/g00497/laws.FnExactGet2", spec := "fnExactGet2", apart := false }
def FnExactGet2Said : Prop := fnExactGet2Row.holds Try.pinned (OpenSpec.ofChange fnExactGet2Spec)

/-- ITS FALSE NEIGHBOUR: 'it returns false'. Refute it at one input. -/
def fnExactGet2Wrong : ChangeSpec := { name := "fnExactGet2", fn := fun _ => fun
  | [d1, d2] => { results := [.lit (.bool false)], args := [d1, d2] }
  | _ => none }
def FnExactGet2WrongFalsely : Prop := fnExactGet2Row.holds Try.pinned (OpenSpec.ofChange fnExactGet2Wrong)

/-- 'laws.FnExactPut4': WHATEVER THE INPUT: true; the input reads as it did. -/
def fnExactPut4Spec : ChangeSpec := { name := "fnExactPut4", fn := fun _ => fun
  | [d1, d2] => { results := [.lit (.bool true)], args := [d1, d2] }
  | _ => none }
def fnExactPut4Row : OpenClaim := { program := "ytaladeifmaldeaa", sum := "fd1362bb4742adcbdacae905c51bf560e4985171231e8a706614a77800b58b9b", func := "loop.example/g00497/laws.FnExactPut4", spec := "fnExactPut4", apart := false }
def FnExactPut4Said : Prop := fnExactPut4Row.holds Try.pinned (OpenSpec.ofChange fnExactPut4Spec)

/-- ITS FALSE NEIGHBOUR: 'it returns false'. Refute it at one input. -/
def fnExactPut4Wrong : ChangeSpec := { name := "fnExactPut4", fn := fun _ => fun
  | [d1, d2] => { results := [.lit (.bool false)], args := [d1, d2] }
  | _ => none }
def FnExactPut4WrongFalsely : Prop := fnExactPut4Row.holds Try.pinned (OpenSpec.ofChange fnExactPut4Wrong)

/-- 'laws.FnExactGet4': WHATEVER THE INPUT: true; the input reads as it did. -/
def fnExactGet4Spec : ChangeSpec := { name := "fnExactGet4", fn := fun _ => fun
  | [d1, d2] => { results := [.lit (.bool true)], args := [d1, d2] }
  | _ => none }
def fnExactGet4Row : OpenClaim := { program := "ytaladeifmaldeaa", sum := "fd1362bb4742adcbdacae905c51bf560e4985171231e8a706614a77800b58b9b", func := "loop.example/g00497/laws.FnExactGet4", spec := "fnExactGet4", apart := false }
def FnExactGet4Said : Prop := fnExactGet4Row.holds Try.pinned (OpenSpec.ofChange fnExactGet4Spec)

/-- ITS FALSE NEIGHBOUR: 'it returns false'. Refute it at one input. -/
def fnExactGet4Wrong : ChangeSpec := { name := "fnExactGet4", fn := fun _ => fun
  | [d1, d2] => { results := [.lit (.bool false)], args := [d1, d2] }
  | _ => none }
def FnExactGet4WrongFalsely : Prop := fnExactGet4Row.holds Try.pinned (OpenSpec.ofChange fnExactGet4Wrong)

/-- 'laws.FnExactLeast': WHATEVER THE INPUT: true; the input reads as it did. -/
def fnExactLeastSpec : ChangeSpec := { name := "fnExactLeast", fn := fun _ => fun
  | [d1, d2] => { results := [.lit (.bool true)], args := [d1, d2] }
  | _ => none }
def fnExactLeastRow : OpenClaim := { program := "ytaladeifmaldeaa", sum := "fd1362bb4742adcbdacae905c51bf560e4985171231e8a706614a77800b58b9b", func := "loop.example/g00497/laws.FnExactLeast", spec := "fnExactLeast", apart := false }
def FnExactLeastSaid : Prop := fnExactLeastRow.holds Try.pinned (OpenSpec.ofChange fnExactLeastSpec)

/-- ITS FALSE NEIGHBOUR: 'it returns false'. Refute it at one input. -/
def fnExactLeastWrong : ChangeSpec := { name := "fnExactLeast", fn := fun _ => fun
  | [d1, d2] => { results := [.lit (.bool false)], args := [d1, d2] }
  | _ => none }
def FnExactLeastWrongFalsely : Prop := fnExactLeastRow.holds Try.pinned (OpenSpec.ofChange fnExactLeastWrong)

/-- 'laws.FnExactMost': WHATEVER THE INPUT: true; the input reads as it did. -/
def fnExactMostSpec : ChangeSpec := { name := "fnExactMost", fn := fun _ => fun
  | [d1, d2] => { results := [.lit (.bool true)], args := [d1, d2] }
  | _ => none }
def fnExactMostRow : OpenClaim := { program := "ytaladeifmaldeaa", sum := "fd1362bb4742adcbdacae905c51bf560e4985171231e8a706614a77800b58b9b", func := "loop.example/g00497/laws.FnExactMost", spec := "fnExactMost", apart := false }
def FnExactMostSaid : Prop := fnExactMostRow.holds Try.pinned (OpenSpec.ofChange fnExactMostSpec)

/-- ITS FALSE NEIGHBOUR: 'it returns false'. Refute it at one input. -/
def fnExactMostWrong : ChangeSpec := { name := "fnExactMost", fn := fun _ => fun
  | [d1, d2] => { results := [.lit (.bool false)], args := [d1, d2] }
  | _ => none }
def FnExactMostWrongFalsely : Prop := fnExactMostRow.holds Try.pinned (OpenSpec.ofChange fnExactMostWrong)

/- THE SECOND FORM. 'bulk': how many values and letters a reading holds, each counted each time it is reached (what is shared counts as often as it is met; a slice's spare places count too). A statement '..UptoSaid' is the law's where the arguments, and the package variables that the reading takes, are together of bulk at most 1048576: NARROWER than '..Said'. Prove '..Said' where nothing that the law and all that it calls make is longer than what came in: it says more and counts as full. Else prove '..UptoSaid'. A law counts once. -/
mutual
def uptoBulk {H : Type} : DataW H → Nat
  | .lit (.string bytes) => bytes.length + 1
  | .lit _ => 1
  | .nil => 1
  | .ptr d => uptoBulk d + 1
  | .slice elems spare => uptoBulkAll elems + uptoBulkAll spare + 1
  | .agg parts => uptoBulkAll parts + 1
  | .iface _ d => uptoBulk d + 1
  | .map entries => uptoBulkEntries entries + 1
  | .held _ => 1
def uptoBulkAll {H : Type} : List (DataW H) → Nat
  | [] => 0
  | d :: r => uptoBulk d + uptoBulkAll r
def uptoBulkEntries {H : Type} : List (Lit × DataW H) → Nat
  | [] => 0
  | x :: r => uptoBulkEntry x + uptoBulkEntries r
def uptoBulkEntry {H : Type} : Lit × DataW H → Nat
  | (.string bytes, d) => bytes.length + uptoBulk d + 1
  | (_, d) => uptoBulk d + 1
 end
def uptoSmall : (H : Type) → List (DataW H) → Bool := fun _ ds => decide (uptoBulkAll ds ≤ 1048576)
def OpenSpec.upto (s : _root_.Go.ChangeSpec) : _root_.Go.OpenSpec := { _root_.Go.OpenSpec.ofChange s with cond := some uptoSmall }

/-- 'laws.FnTwos', WHERE WHAT IT READS IS OF BULK AT MOST 1048576: true; the input reads as it did. -/
def fnTwosUptoRow : OpenClaim := { program := "ytaladeifmaldeaa", sum := "fd1362bb4742adcbdacae905c51bf560e4985171231e8a706614a77800b58b9b", func := "loop.example/g00497/laws.FnTwos", spec := "fnTwos", apart := false, narrowed := true }
def FnTwosUptoSaid : Prop := fnTwosUptoRow.holds Try.pinned (OpenSpec.upto fnTwosSpec)

/-- 'laws.FnFours', WHERE WHAT IT READS IS OF BULK AT MOST 1048576: true; the input reads as it did. -/
def fnFoursUptoRow : OpenClaim := { program := "ytaladeifmaldeaa", sum := "fd1362bb4742adcbdacae905c51bf560e4985171231e8a706614a77800b58b9b", func := "loop.example/g00497/laws.FnFours", spec := "fnFours", apart := false, narrowed := true }
def FnFoursUptoSaid : Prop := fnFoursUptoRow.holds Try.pinned (OpenSpec.upto fnFoursSpec)

/-- 'laws.FnExactPut2', WHERE WHAT IT READS IS OF BULK AT MOST 1048576: true; the input reads as it did. -/
def fnExactPut2UptoRow : OpenClaim := { program := "ytaladeifmaldeaa", sum := "fd1362bb4742adcbdacae905c51bf560e4985171231e8a706614a77800b58b9b", func := "loop.example/g00497/laws.FnExactPut2", spec := "fnExactPut2", apart := false, narrowed := true }
def FnExactPut2UptoSaid : Prop := fnExactPut2UptoRow.holds Try.pinned (OpenSpec.upto fnExactPut2Spec)

/-- 'laws.FnExactGet2', WHERE WHAT IT READS IS OF BULK AT MOST 1048576: true; the input reads as it did. -/
def fnExactGet2UptoRow : OpenClaim := { program := "ytaladeifmaldeaa", sum := "fd1362bb4742adcbdacae905c51bf560e4985171231e8a706614a77800b58b9b", func := "loop.example/g00497/laws.FnExactGet2", spec := "fnExactGet2", apart := false, narrowed := true }
def FnExactGet2UptoSaid : Prop := fnExactGet2UptoRow.holds Try.pinned (OpenSpec.upto fnExactGet2Spec)

/-- 'laws.FnExactPut4', WHERE WHAT IT READS IS OF BULK AT MOST 1048576: true; the input reads as it did. -/
def fnExactPut4UptoRow : OpenClaim := { program := "ytaladeifmaldeaa", sum := "fd1362bb4742adcbdacae905c51bf560e4985171231e8a706614a77800b58b9b", func := "loop.example/g00497/laws.FnExactPut4", spec := "fnExactPut4", apart := false, narrowed := true }
def FnExactPut4UptoSaid : Prop := fnExactPut4UptoRow.holds Try.pinned (OpenSpec.upto fnExactPut4Spec)

/-- 'laws.FnExactGet4', WHERE WHAT IT READS IS OF BULK AT MOST 1048576: true; the input reads as it did. -/
def fnExactGet4UptoRow : OpenClaim := { program := "ytaladeifmaldeaa", sum := "fd1362bb4742adcbdacae905c51bf560e4985171231e8a706614a77800b58b9b", func := "loop.example/g00497/laws.FnExactGet4", spec := "fnExactGet4", apart := false, narrowed := true }
def FnExactGet4UptoSaid : Prop := fnExactGet4UptoRow.holds Try.pinned (OpenSpec.upto fnExactGet4Spec)

/-- 'laws.FnExactLeast', WHERE WHAT IT READS IS OF BULK AT MOST 1048576: true; the input reads as it did. -/
def fnExactLeastUptoRow : OpenClaim := { program := "ytaladeifmaldeaa", sum := "fd1362bb4742adcbdacae905c51bf560e4985171231e8a706614a77800b58b9b", func := "loop.example/g00497/laws.FnExactLeast", spec := "fnExactLeast", apart := false, narrowed := true }
def FnExactLeastUptoSaid : Prop := fnExactLeastUptoRow.holds Try.pinned (OpenSpec.upto fnExactLeastSpec)

/-- 'laws.FnExactMost', WHERE WHAT IT READS IS OF BULK AT MOST 1048576: true; the input reads as it did. -/
def fnExactMostUptoRow : OpenClaim := { program := "ytaladeifmaldeaa", sum := "fd1362bb4742adcbdacae905c51bf560e4985171231e8a706614a77800b58b9b", func := "loop.example/g00497/laws.FnExactMost", spec := "fnExactMost", apart := false, narrowed := true }
def FnExactMostUptoSaid : Prop := fnExactMostUptoRow.holds Try.pinned (OpenSpec.upto fnExactMostSpec)

end Rows
end Go.Proofs.Ytaladeifmaldeaa
