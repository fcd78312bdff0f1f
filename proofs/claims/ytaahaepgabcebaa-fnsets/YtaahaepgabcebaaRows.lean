/-
  No cell of these rows narrows 'for every input' (looked for: loops, veiled, ifaces, maps, wideKeys, modest, calm, conditions, laid).
  DERIVED. THE GIVEN ROWS OF THIS SEAT. 8 by the template 'for every input the law returns true; each argument reads behind the call as it read before'; 0 by the template 'total and deterministic' (their statements: YtaahaepgabcebaaTotals.lean).
  GIVEN WITH THE SEED: the statements are not yours to turn. If you find one false, say at which input.
  Laid BY PROGRAM, IN A SANDBOX (cutbox-rows.mjs): the forced cells as the released guide's own fill.sh prints them over the translation a69a1e6b27f55d26… (all of the seat's roots in one cut). By AI agents, Wed Nov 11 2026. No macro, syntax, notation, axiom, sorry.
-/
import Derived.Test.YtaahaepgabcebaaChecked
import GoSem.Claim
import GoSem.ClaimJoined
import GoSem.ClaimMapViews
import Derived.JoinedTies
import Derived.KernelRfl
namespace Go.Proofs.Ytaahaepgabcebaa
/- THE CELL 'sum', in the pinned program and in every row, IS THE sha256 OF THE DUMP (.gsa) THAT YtaahaepgabcebaaProg.lean LOADS. Nothing in Lean hashes anything: it is a label: what it is worth is what the hold of that sum in a sandbox is worth. -/
noncomputable def Try.pinned : Pinned := { name := "ytaahaepgabcebaa", sum := "a69a1e6b27f55d2635ce617a8b808cc5613d70d80e6519bcea038cae101536cd", checked := Try.checked }
namespace Rows
def none {H : Type} : Left H := { results := [], args := [] }

/-- 'laws.FnSets': WHATEVER THE INPUT: true; the input reads as it did. -/
def fnSetsSpec : ChangeSpec := { name := "fnSets", fn := fun _ => fun
  | [d] => { results := [.lit (.bool true)], args := [d] }
  | _ => none }
def fnSetsRow : OpenClaim := { program := "ytaahaepgabcebaa", sum := "a69a1e6b27f55d2635ce617a8b808cc5613d70d80e6519bcea038cae101536cd", func := "loop.example/g00497/laws.FnSets", spec := "fnSets", plainKeys := false, apart := false }
def FnSetsSaid : Prop := fnSetsRow.holds Try.pinned (OpenSpec.ofChange fnSetsSpec)

/-- ITS FALSE NEIGHBOUR: 'it returns false'. Refute it at one input. -/
def fnSetsWrong : ChangeSpec := { name := "fnSets", fn := fun _ => fun
  | [d] => { results := [.lit (.bool false)], args := [d] }
  | _ => none }
def FnSetsWrongFalsely : Prop := fnSetsRow.holds Try.pinned (OpenSpec.ofChange fnSetsWrong)

/-- 'laws.FnExactSetOf': WHATEVER THE INPUT: true; the input reads as it did. -/
def fnExactSetOfSpec : ChangeSpec := { name := "fnExactSetOf", fn := fun _ => fun
  | [d1, d2, d3] => { results := [.lit (.bool true)], args := [d1, d2, d3] }
  | _ => none }
def fnExactSetOfRow : OpenClaim := { program := "ytaahaepgabcebaa", sum := "a69a1e6b27f55d2635ce617a8b808cc5613d70d80e6519bcea038cae101536cd", func := "loop.example/g00497/laws.FnExactSetOf", spec := "fnExactSetOf", plainKeys := false, apart := false }
def FnExactSetOfSaid : Prop := fnExactSetOfRow.holds Try.pinned (OpenSpec.ofChange fnExactSetOfSpec)

/-- ITS FALSE NEIGHBOUR: 'it returns false'. Refute it at one input. -/
def fnExactSetOfWrong : ChangeSpec := { name := "fnExactSetOf", fn := fun _ => fun
  | [d1, d2, d3] => { results := [.lit (.bool false)], args := [d1, d2, d3] }
  | _ => none }
def FnExactSetOfWrongFalsely : Prop := fnExactSetOfRow.holds Try.pinned (OpenSpec.ofChange fnExactSetOfWrong)

/-- 'laws.FnExactLeastTtl': WHATEVER THE INPUT: true; the input reads as it did. -/
def fnExactLeastTtlSpec : ChangeSpec := { name := "fnExactLeastTtl", fn := fun _ => fun
  | [d] => { results := [.lit (.bool true)], args := [d] }
  | _ => none }
def fnExactLeastTtlRow : OpenClaim := { program := "ytaahaepgabcebaa", sum := "a69a1e6b27f55d2635ce617a8b808cc5613d70d80e6519bcea038cae101536cd", func := "loop.example/g00497/laws.FnExactLeastTtl", spec := "fnExactLeastTtl", plainKeys := false, apart := false }
def FnExactLeastTtlSaid : Prop := fnExactLeastTtlRow.holds Try.pinned (OpenSpec.ofChange fnExactLeastTtlSpec)

/-- ITS FALSE NEIGHBOUR: 'it returns false'. Refute it at one input. -/
def fnExactLeastTtlWrong : ChangeSpec := { name := "fnExactLeastTtl", fn := fun _ => fun
  | [d] => { results := [.lit (.bool false)], args := [d] }
  | _ => none }
def FnExactLeastTtlWrongFalsely : Prop := fnExactLeastTtlRow.holds Try.pinned (OpenSpec.ofChange fnExactLeastTtlWrong)

/-- 'laws.FnExactWithTtl': WHATEVER THE INPUT: true; the input reads as it did. -/
def fnExactWithTtlSpec : ChangeSpec := { name := "fnExactWithTtl", fn := fun _ => fun
  | [d1, d2] => { results := [.lit (.bool true)], args := [d1, d2] }
  | _ => none }
def fnExactWithTtlRow : OpenClaim := { program := "ytaahaepgabcebaa", sum := "a69a1e6b27f55d2635ce617a8b808cc5613d70d80e6519bcea038cae101536cd", func := "loop.example/g00497/laws.FnExactWithTtl", spec := "fnExactWithTtl", plainKeys := false, apart := false }
def FnExactWithTtlSaid : Prop := fnExactWithTtlRow.holds Try.pinned (OpenSpec.ofChange fnExactWithTtlSpec)

/-- ITS FALSE NEIGHBOUR: 'it returns false'. Refute it at one input. -/
def fnExactWithTtlWrong : ChangeSpec := { name := "fnExactWithTtl", fn := fun _ => fun
  | [d1, d2] => { results := [.lit (.bool false)], args := [d1, d2] }
  | _ => none }
def FnExactWithTtlWrongFalsely : Prop := fnExactWithTtlRow.holds Try.pinned (OpenSpec.ofChange fnExactWithTtlWrong)

/-- 'laws.FnExactHosts': WHATEVER THE INPUT: true; the input reads as it did. -/
def fnExactHostsSpec : ChangeSpec := { name := "fnExactHosts", fn := fun _ => fun
  | [d] => { results := [.lit (.bool true)], args := [d] }
  | _ => none }
def fnExactHostsRow : OpenClaim := { program := "ytaahaepgabcebaa", sum := "a69a1e6b27f55d2635ce617a8b808cc5613d70d80e6519bcea038cae101536cd", func := "loop.example/g00497/laws.FnExactHosts", spec := "fnExactHosts", plainKeys := false, apart := false }
def FnExactHostsSaid : Prop := fnExactHostsRow.holds Try.pinned (OpenSpec.ofChange fnExactHostsSpec)

/-- ITS FALSE NEIGHBOUR: 'it returns false'. Refute it at one input. -/
def fnExactHostsWrong : ChangeSpec := { name := "fnExactHosts", fn := fun _ => fun
  | [d] => { results := [.lit (.bool false)], args := [d] }
  | _ => none }
def FnExactHostsWrongFalsely : Prop := fnExactHostsRow.holds Try.pinned (OpenSpec.ofChange fnExactHostsWrong)

/-- 'laws.FnExactAddrs': WHATEVER THE INPUT: true; the input reads as it did. -/
def fnExactAddrsSpec : ChangeSpec := { name := "fnExactAddrs", fn := fun _ => fun
  | [d1, d2] => { results := [.lit (.bool true)], args := [d1, d2] }
  | _ => none }
def fnExactAddrsRow : OpenClaim := { program := "ytaahaepgabcebaa", sum := "a69a1e6b27f55d2635ce617a8b808cc5613d70d80e6519bcea038cae101536cd", func := "loop.example/g00497/laws.FnExactAddrs", spec := "fnExactAddrs", plainKeys := false, apart := false }
def FnExactAddrsSaid : Prop := fnExactAddrsRow.holds Try.pinned (OpenSpec.ofChange fnExactAddrsSpec)

/-- ITS FALSE NEIGHBOUR: 'it returns false'. Refute it at one input. -/
def fnExactAddrsWrong : ChangeSpec := { name := "fnExactAddrs", fn := fun _ => fun
  | [d1, d2] => { results := [.lit (.bool false)], args := [d1, d2] }
  | _ => none }
def FnExactAddrsWrongFalsely : Prop := fnExactAddrsRow.holds Try.pinned (OpenSpec.ofChange fnExactAddrsWrong)

/-- 'laws.FnExactSameData': WHATEVER THE INPUT: true; the input reads as it did. -/
def fnExactSameDataSpec : ChangeSpec := { name := "fnExactSameData", fn := fun _ => fun
  | [d1, d2] => { results := [.lit (.bool true)], args := [d1, d2] }
  | _ => none }
def fnExactSameDataRow : OpenClaim := { program := "ytaahaepgabcebaa", sum := "a69a1e6b27f55d2635ce617a8b808cc5613d70d80e6519bcea038cae101536cd", func := "loop.example/g00497/laws.FnExactSameData", spec := "fnExactSameData", plainKeys := false, apart := false }
def FnExactSameDataSaid : Prop := fnExactSameDataRow.holds Try.pinned (OpenSpec.ofChange fnExactSameDataSpec)

/-- ITS FALSE NEIGHBOUR: 'it returns false'. Refute it at one input. -/
def fnExactSameDataWrong : ChangeSpec := { name := "fnExactSameData", fn := fun _ => fun
  | [d1, d2] => { results := [.lit (.bool false)], args := [d1, d2] }
  | _ => none }
def FnExactSameDataWrongFalsely : Prop := fnExactSameDataRow.holds Try.pinned (OpenSpec.ofChange fnExactSameDataWrong)

/-- 'laws.FnExactKeysOf': WHATEVER THE INPUT: true; the input reads as it did. -/
def fnExactKeysOfSpec : ChangeSpec := { name := "fnExactKeysOf", fn := fun _ => fun
  | [d] => { results := [.lit (.bool true)], args := [d] }
  | _ => none }
def fnExactKeysOfRow : OpenClaim := { program := "ytaahaepgabcebaa", sum := "a69a1e6b27f55d2635ce617a8b808cc5613d70d80e6519bcea038cae101536cd", func := "loop.example/g00497/laws.FnExactKeysOf", spec := "fnExactKeysOf", plainKeys := false, apart := false }
def FnExactKeysOfSaid : Prop := fnExactKeysOfRow.holds Try.pinned (OpenSpec.ofChange fnExactKeysOfSpec)

/-- ITS FALSE NEIGHBOUR: 'it returns false'. Refute it at one input. -/
def fnExactKeysOfWrong : ChangeSpec := { name := "fnExactKeysOf", fn := fun _ => fun
  | [d] => { results := [.lit (.bool false)], args := [d] }
  | _ => none }
def FnExactKeysOfWrongFalsely : Prop := fnExactKeysOfRow.holds Try.pinned (OpenSpec.ofChange fnExactKeysOfWrong)

/- THE SECOND FORM. 'bulk': how many values and letters a reading holds, each counted each time it is reached (what is shared counts as often as it is met; a slice's spare places count too). A statement '..UptoSaid' is the law's where the arguments, and the package variables that the reading takes, are together of bulk at most 1048576: NARROWER than '..Said'. Prove '..Said' where nothing that the law and all that it calls make is longer than what came in: it says more and counts as full. Else prove '..UptoSaid'. A law counts once. -/
mutual
def uptoBulk {H : Type} : DataW H → Nat
  | .lit (.string bytes) => bytes.length + 1
  | .lit _ => 1
  | .nil => 1
  | .ptr d => uptoBulk d + 1
  | .slice elems spare => uptoBulkAll elems + uptoBulkAll spare + 1
  | .agg parts => uptoBulkAll parts + 1
  | .iface _ d => uptoBulk d + 1
  | .map entries => uptoBulkEntries entries + 1
  | .held _ => 1
def uptoBulkAll {H : Type} : List (DataW H) → Nat
  | [] => 0
  | d :: r => uptoBulk d + uptoBulkAll r
def uptoBulkEntries {H : Type} : List (Lit × DataW H) → Nat
  | [] => 0
  | x :: r => uptoBulkEntry x + uptoBulkEntries r
def uptoBulkEntry {H : Type} : Lit × DataW H → Nat
  | (.string bytes, d) => bytes.length + uptoBulk d + 1
  | (_, d) => uptoBulk d + 1
 end
def uptoSmall : (H : Type) → List (DataW H) → Bool := fun _ ds => decide (uptoBulkAll ds ≤ 1048576)
def OpenSpec.upto (s : _root_.Go.ChangeSpec) : _root_.Go.OpenSpec := { _root_.Go.OpenSpec.ofChange s with cond := some uptoSmall }

/-- 'laws.FnSets', WHERE WHAT IT READS IS OF BULK AT MOST 1048576: true; the input reads as it did. -/
def fnSetsUptoRow : OpenClaim := { program := "ytaahaepgabcebaa", sum := "a69a1e6b27f55d2635ce617a8b808cc5613d70d80e6519bcea038cae101536cd", func := "loop.example/g00497/laws.FnSets", spec := "fnSets", plainKeys := false, apart := false, narrowed := true }
def FnSetsUptoSaid : Prop := fnSetsUptoRow.holds Try.pinned (OpenSpec.upto fnSetsSpec)

/-- 'laws.FnExactSetOf', WHERE WHAT IT READS IS OF BULK AT MOST 1048576: true; the input reads as it did. -/
def fnExactSetOfUptoRow : OpenClaim := { program := "ytaahaepgabcebaa", sum := "a69a1e6b27f55d2635ce617a8b808cc5613d70d80e6519bcea038cae101536cd", func := "loop.example/g00497/laws.FnExactSetOf", spec := "fnExactSetOf", plainKeys := false, apart := false, narrowed := true }
def FnExactSetOfUptoSaid : Prop := fnExactSetOfUptoRow.holds Try.pinned (OpenSpec.upto fnExactSetOfSpec)

/-- 'laws.FnExactLeastTtl', WHERE WHAT IT READS IS OF BULK AT MOST 1048576: true; the input reads as it did. -/
def fnExactLeastTtlUptoRow : OpenClaim := { program := "ytaahaepgabcebaa", sum := "a69a1e6b27f55d2635ce617a8b808cc5613d70d80e6519bcea038cae101536cd", func := "loop.example/g00497/laws.FnExactLeastTtl", spec := "fnExactLeastTtl", plainKeys := false, apart := false, narrowed := true }
def FnExactLeastTtlUptoSaid : Prop := fnExactLeastTtlUptoRow.holds Try.pinned (OpenSpec.upto fnExactLeastTtlSpec)

/-- 'laws.FnExactWithTtl', WHERE WHAT IT READS IS OF BULK AT MOST 1048576: true; the input reads as it did. -/
def fnExactWithTtlUptoRow : OpenClaim := { program := "ytaahaepgabcebaa", sum := "a69a1e6b27f55d2635ce617a8b808cc5613d70d80e6519bcea038cae101536cd", func := "loop.example/g00497/laws.FnExactWithTtl", spec := "fnExactWithTtl", plainKeys := false, apart := false, narrowed := true }
def FnExactWithTtlUptoSaid : Prop := fnExactWithTtlUptoRow.holds Try.pinned (OpenSpec.upto fnExactWithTtlSpec)

/-- 'laws.FnExactHosts', WHERE WHAT IT READS IS OF BULK AT MOST 1048576: true; the input reads as it did. -/
def fnExactHostsUptoRow : OpenClaim := { program := "ytaahaepgabcebaa", sum := "a69a1e6b27f55d2635ce617a8b808cc5613d70d80e6519bcea038cae101536cd", func := "loop.example/g00497/laws.FnExactHosts", spec := "fnExactHosts", plainKeys := false, apart := false, narrowed := true }
def FnExactHostsUptoSaid : Prop := fnExactHostsUptoRow.holds Try.pinned (OpenSpec.upto fnExactHostsSpec)

/-- 'laws.FnExactAddrs', WHERE WHAT IT READS IS OF BULK AT MOST 1048576: true; the input reads as it did. -/
def fnExactAddrsUptoRow : OpenClaim := { program := "ytaahaepgabcebaa", sum := "a69a1e6b27f55d2635ce617a8b808cc5613d70d80e6519bcea038cae101536cd", func := "loop.example/g00497/laws.FnExactAddrs", spec := "fnExactAddrs", plainKeys := false, apart := false, narrowed := true }
def FnExactAddrsUptoSaid : Prop := fnExactAddrsUptoRow.holds Try.pinned (OpenSpec.upto fnExactAddrsSpec)

/-- 'laws.FnExactSameData', WHERE WHAT IT READS IS OF BULK AT MOST 1048576: true; the input reads as it did. -/
def fnExactSameDataUptoRow : OpenClaim := { program := "ytaahaepgabcebaa", sum := "a69a1e6b27f55d2635ce617a8b808cc5613d70d80e6519bcea038cae101536cd", func := "loop.example/g00497/laws.FnExactSameData", spec := "fnExactSameData", plainKeys := false, apart := false, narrowed := true }
def FnExactSameDataUptoSaid : Prop := fnExactSameDataUptoRow.holds Try.pinned (OpenSpec.upto fnExactSameDataSpec)

/-- 'laws.FnExactKeysOf', WHERE WHAT IT READS IS OF BULK AT MOST 1048576: true; the input reads as it did. -/
def fnExactKeysOfUptoRow : OpenClaim := { program := "ytaahaepgabcebaa", sum := "a69a1e6b27f55d2635ce617a8b808cc5613d70d80e6519bcea038cae101536cd", func := "loop.example/g00497/laws.FnExactKeysOf", spec := "fnExactKeysOf", plainKeys := false, apart := false, narrowed := true }
def FnExactKeysOfUptoSaid : Prop := fnExactKeysOfUptoRow.holds Try.pinned (OpenSpec.upto fnExactKeysOfSpec)

end Rows
end Go.Proofs.Ytaahaepgabcebaa
