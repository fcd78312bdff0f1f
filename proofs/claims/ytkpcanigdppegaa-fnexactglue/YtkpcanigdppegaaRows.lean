/-
  No cell of these rows narrows 'for every input' (looked for: loops, veiled, ifaces, maps, wideKeys, modest, calm, conditions, laid).
  DERIVED. THE GIVEN ROWS OF THIS SEAT. 6 by the template 'for every input the law returns true; each argument reads behind the call as it read before'; 0 by the template 'total and deterministic' (their statements: YtkpcanigdppegaaTotals.lean).
  GIVEN WITH THE SEED: the statements are not yours to turn. If you find one false, say at which input.
  Laid BY PROGRAM, IN A SANDBOX (cutbox-rows.mjs): the forced cells as the released guide's own fill.sh prints them over the translation 05228179d711cd3d… (all of the seat's roots in one cut). By AI agents, Wed Nov 11 2026. No macro, syntax, notation, axiom, sorry.
-/
import Derived.Test.YtkpcanigdppegaaChecked
import GoSem.Claim
import GoSem.ClaimJoined
import GoSem.ClaimMapViews
import Derived.JoinedTies
import Derived.KernelRfl
namespace Go.Proofs.Ytkpcanigdppegaa
/- THE CELL 'sum', in the pinned program and in every row, IS THE sha256 OF THE DUMP (.gsa) THAT YtkpcanigdppegaaProg.lean LOADS. Nothing in Lean hashes anything: it is a label: what it is worth is what the hold of that sum in a sandbox is worth. -/
noncomputable def Try.pinned : Pinned := { name := "ytkpcanigdppegaa", sum := "05228179d711cd3d87684e737be1393adf495edb696c108daa7b8917531ab03f", checked := Try.checked }
namespace Rows
def none {H : Type} : Left H := { results := [], args := [] }

/-- 'laws.FnExactCutOf': WHATEVER THE INPUT: true; the input reads as it did. -/
def fnExactCutOfSpec : ChangeSpec := { name := "fnExactCutOf", fn := fun _ => fun
  | [d1, d2] => { results := [.lit (.bool true)], args := [d1, d2] }
  | _ => none }
def fnExactCutOfRow : OpenClaim := { program := "ytkpcanigdppegaa", sum := "05228179d711cd3d87684e737be1393adf495edb696c108daa7b8917531ab03f", func := "loop.example/g00497/laws.FnExactCutOf", spec := "fnExactCutOf", plainKeys := false, apart := false }
def FnExactCutOfSaid : Prop := fnExactCutOfRow.holds Try.pinned (OpenSpec.ofChange fnExactCutOfSpec)

/-- ITS FALSE NEIGHBOUR: 'it returns false'. Refute it at one input. -/
def fnExactCutOfWrong : ChangeSpec := { name := "fnExactCutOf", fn := fun _ => fun
  | [d1, d2] => { results := [.lit (.bool false)], args := [d1, d2] }
  | _ => none }
def FnExactCutOfWrongFalsely : Prop := fnExactCutOfRow.holds Try.pinned (OpenSpec.ofChange fnExactCutOfWrong)

/-- 'laws.FnExactInZone': WHATEVER THE INPUT: true; the input reads as it did. -/
def fnExactInZoneSpec : ChangeSpec := { name := "fnExactInZone", fn := fun _ => fun
  | [d1, d2] => { results := [.lit (.bool true)], args := [d1, d2] }
  | _ => none }
def fnExactInZoneRow : OpenClaim := { program := "ytkpcanigdppegaa", sum := "05228179d711cd3d87684e737be1393adf495edb696c108daa7b8917531ab03f", func := "loop.example/g00497/laws.FnExactInZone", spec := "fnExactInZone", plainKeys := false, apart := false }
def FnExactInZoneSaid : Prop := fnExactInZoneRow.holds Try.pinned (OpenSpec.ofChange fnExactInZoneSpec)

/-- ITS FALSE NEIGHBOUR: 'it returns false'. Refute it at one input. -/
def fnExactInZoneWrong : ChangeSpec := { name := "fnExactInZone", fn := fun _ => fun
  | [d1, d2] => { results := [.lit (.bool false)], args := [d1, d2] }
  | _ => none }
def FnExactInZoneWrongFalsely : Prop := fnExactInZoneRow.holds Try.pinned (OpenSpec.ofChange fnExactInZoneWrong)

/-- 'laws.FnExactExists': WHATEVER THE INPUT: true; the input reads as it did. -/
def fnExactExistsSpec : ChangeSpec := { name := "fnExactExists", fn := fun _ => fun
  | [d1, d2] => { results := [.lit (.bool true)], args := [d1, d2] }
  | _ => none }
def fnExactExistsRow : OpenClaim := { program := "ytkpcanigdppegaa", sum := "05228179d711cd3d87684e737be1393adf495edb696c108daa7b8917531ab03f", func := "loop.example/g00497/laws.FnExactExists", spec := "fnExactExists", plainKeys := false, apart := false }
def FnExactExistsSaid : Prop := fnExactExistsRow.holds Try.pinned (OpenSpec.ofChange fnExactExistsSpec)

/-- ITS FALSE NEIGHBOUR: 'it returns false'. Refute it at one input. -/
def fnExactExistsWrong : ChangeSpec := { name := "fnExactExists", fn := fun _ => fun
  | [d1, d2] => { results := [.lit (.bool false)], args := [d1, d2] }
  | _ => none }
def FnExactExistsWrongFalsely : Prop := fnExactExistsRow.holds Try.pinned (OpenSpec.ofChange fnExactExistsWrong)

/-- 'laws.FnExactStartOf': WHATEVER THE INPUT: true; the input reads as it did. -/
def fnExactStartOfSpec : ChangeSpec := { name := "fnExactStartOf", fn := fun _ => fun
  | [d] => { results := [.lit (.bool true)], args := [d] }
  | _ => none }
def fnExactStartOfRow : OpenClaim := { program := "ytkpcanigdppegaa", sum := "05228179d711cd3d87684e737be1393adf495edb696c108daa7b8917531ab03f", func := "loop.example/g00497/laws.FnExactStartOf", spec := "fnExactStartOf", plainKeys := false, apart := false }
def FnExactStartOfSaid : Prop := fnExactStartOfRow.holds Try.pinned (OpenSpec.ofChange fnExactStartOfSpec)

/-- ITS FALSE NEIGHBOUR: 'it returns false'. Refute it at one input. -/
def fnExactStartOfWrong : ChangeSpec := { name := "fnExactStartOf", fn := fun _ => fun
  | [d] => { results := [.lit (.bool false)], args := [d] }
  | _ => none }
def FnExactStartOfWrongFalsely : Prop := fnExactStartOfRow.holds Try.pinned (OpenSpec.ofChange fnExactStartOfWrong)

/-- 'laws.FnExactGlue': WHATEVER THE INPUT: true; the input reads as it did. -/
def fnExactGlueSpec : ChangeSpec := { name := "fnExactGlue", fn := fun _ => fun
  | [d1, d2] => { results := [.lit (.bool true)], args := [d1, d2] }
  | _ => none }
def fnExactGlueRow : OpenClaim := { program := "ytkpcanigdppegaa", sum := "05228179d711cd3d87684e737be1393adf495edb696c108daa7b8917531ab03f", func := "loop.example/g00497/laws.FnExactGlue", spec := "fnExactGlue", plainKeys := false, apart := false }
def FnExactGlueSaid : Prop := fnExactGlueRow.holds Try.pinned (OpenSpec.ofChange fnExactGlueSpec)

/-- ITS FALSE NEIGHBOUR: 'it returns false'. Refute it at one input. -/
def fnExactGlueWrong : ChangeSpec := { name := "fnExactGlue", fn := fun _ => fun
  | [d1, d2] => { results := [.lit (.bool false)], args := [d1, d2] }
  | _ => none }
def FnExactGlueWrongFalsely : Prop := fnExactGlueRow.holds Try.pinned (OpenSpec.ofChange fnExactGlueWrong)

/-- 'laws.FnExactCutsOf': WHATEVER THE INPUT: true; the input reads as it did. -/
def fnExactCutsOfSpec : ChangeSpec := { name := "fnExactCutsOf", fn := fun _ => fun
  | [d] => { results := [.lit (.bool true)], args := [d] }
  | _ => none }
def fnExactCutsOfRow : OpenClaim := { program := "ytkpcanigdppegaa", sum := "05228179d711cd3d87684e737be1393adf495edb696c108daa7b8917531ab03f", func := "loop.example/g00497/laws.FnExactCutsOf", spec := "fnExactCutsOf", plainKeys := false, apart := false }
def FnExactCutsOfSaid : Prop := fnExactCutsOfRow.holds Try.pinned (OpenSpec.ofChange fnExactCutsOfSpec)

/-- ITS FALSE NEIGHBOUR: 'it returns false'. Refute it at one input. -/
def fnExactCutsOfWrong : ChangeSpec := { name := "fnExactCutsOf", fn := fun _ => fun
  | [d] => { results := [.lit (.bool false)], args := [d] }
  | _ => none }
def FnExactCutsOfWrongFalsely : Prop := fnExactCutsOfRow.holds Try.pinned (OpenSpec.ofChange fnExactCutsOfWrong)

/- THE SECOND FORM. 'bulk': how many values and letters a reading holds, each counted each time it is reached (what is shared counts as often as it is met; a slice's spare places count too). A statement '..UptoSaid' is the law's where the arguments, and the package variables that the reading takes, are together of bulk at most 1048576: NARROWER than '..Said'. Prove '..Said' where nothing that the law and all that it calls make is longer than what came in: it says more and counts as full. Else prove '..UptoSaid'. A law counts once. -/
mutual
def uptoBulk {H : Type} : DataW H → Nat
  | .lit (.string bytes) => bytes.length + 1
  | .lit _ => 1
  | .nil => 1
  | .ptr d => uptoBulk d + 1
  | .slice elems spare => uptoBulkAll elems + uptoBulkAll spare + 1
  | .agg parts => uptoBulkAll parts + 1
  | .iface _ d => uptoBulk d + 1
  | .map entries => uptoBulkEntries entries + 1
  | .held _ => 1
def uptoBulkAll {H : Type} : List (DataW H) → Nat
  | [] => 0
  | d :: r => uptoBulk d + uptoBulkAll r
def uptoBulkEntries {H : Type} : List (Lit × DataW H) → Nat
  | [] => 0
  | x :: r => uptoBulkEntry x + uptoBulkEntries r
def uptoBulkEntry {H : Type} : Lit × DataW H → Nat
  | (.string bytes, d) => bytes.length + uptoBulk d + 1
  | (_, d) => uptoBulk d + 1
 end
def uptoSmall : (H : Type) → List (DataW H) → Bool := fun _ ds => decide (uptoBulkAll ds ≤ 1048576)
def OpenSpec.upto (s : _root_.Go.ChangeSpec) : _root_.Go.OpenSpec := { _root_.Go.OpenSpec.ofChange s with cond := some uptoSmall }

/-- 'laws.FnExactCutOf', WHERE WHAT IT READS IS OF BULK AT MOST 1048576: true; the input reads as it did. -/
def fnExactCutOfUptoRow : OpenClaim := { program := "ytkpcanigdppegaa", sum := "05228179d711cd3d87684e737be1393adf495edb696c108daa7b8917531ab03f", func := "loop.example/g00497/laws.FnExactCutOf", spec := "fnExactCutOf", plainKeys := false, apart := false, narrowed := true }
def FnExactCutOfUptoSaid : Prop := fnExactCutOfUptoRow.holds Try.pinned (OpenSpec.upto fnExactCutOfSpec)

/-- 'laws.FnExactInZone', WHERE WHAT IT READS IS OF BULK AT MOST 1048576: true; the input reads as it did. -/
def fnExactInZoneUptoRow : OpenClaim := { program := "ytkpcanigdppegaa", sum := "05228179d711cd3d87684e737be1393adf495edb696c108daa7b8917531ab03f", func := "loop.example/g00497/laws.FnExactInZone", spec := "fnExactInZone", plainKeys := false, apart := false, narrowed := true }
def FnExactInZoneUptoSaid : Prop := fnExactInZoneUptoRow.holds Try.pinned (OpenSpec.upto fnExactInZoneSpec)

/-- 'laws.FnExactExists', WHERE WHAT IT READS IS OF BULK AT MOST 1048576: true; the input reads as it did. -/
def fnExactExistsUptoRow : OpenClaim := { program := "ytkpcanigdppegaa", sum := "05228179d711cd3d87684e737be1393adf495edb696c108daa7b8917531ab03f", func := "loop.example/g00497/laws.FnExactExists", spec := "fnExactExists", plainKeys := false, apart := false, narrowed := true }
def FnExactExistsUptoSaid : Prop := fnExactExistsUptoRow.holds Try.pinned (OpenSpec.upto fnExactExistsSpec)

/-- 'laws.FnExactStartOf', WHERE WHAT IT READS IS OF BULK AT MOST 1048576: true; the input reads as it did. -/
def fnExactStartOfUptoRow : OpenClaim := { program := "ytkpcanigdppegaa", sum := "05228179d711cd3d87684e737be1393adf495edb696c108daa7b8917531ab03f", func := "loop.example/g00497/laws.FnExactStartOf", spec := "fnExactStartOf", plainKeys := false, apart := false, narrowed := true }
def FnExactStartOfUptoSaid : Prop := fnExactStartOfUptoRow.holds Try.pinned (OpenSpec.upto fnExactStartOfSpec)

/-- 'laws.FnExactGlue', WHERE WHAT IT READS IS OF BULK AT MOST 1048576: true; the input reads as it did. -/
def fnExactGlueUptoRow : OpenClaim := { program := "ytkpcanigdppegaa", sum := "05228179d711cd3d87684e737be1393adf495edb696c108daa7b8917531ab03f", func := "loop.example/g00497/laws.FnExactGlue", spec := "fnExactGlue", plainKeys := false, apart := false, narrowed := true }
def FnExactGlueUptoSaid : Prop := fnExactGlueUptoRow.holds Try.pinned (OpenSpec.upto fnExactGlueSpec)

/-- 'laws.FnExactCutsOf', WHERE WHAT IT READS IS OF BULK AT MOST 1048576: true; the input reads as it did. -/
def fnExactCutsOfUptoRow : OpenClaim := { program := "ytkpcanigdppegaa", sum := "05228179d711cd3d87684e737be1393adf495edb696c108daa7b8917531ab03f", func := "loop.example/g00497/laws.FnExactCutsOf", spec := "fnExactCutsOf", plainKeys := false, apart := false, narrowed := true }
def FnExactCutsOfUptoSaid : Prop := fnExactCutsOfUptoRow.holds Try.pinned (OpenSpec.upto fnExactCutsOfSpec)

end Rows
end Go.Proofs.Ytkpcanigdppegaa
