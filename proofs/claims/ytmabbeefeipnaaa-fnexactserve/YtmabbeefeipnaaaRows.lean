/-
  No cell of these rows narrows 'for every input' (looked for: loops, veiled, ifaces, maps, wideKeys, modest, calm, conditions, laid).
  DERIVED. THE GIVEN ROWS OF THIS SEAT. 6 by the template 'for every input the law returns true; each argument reads behind the call as it read before'; 0 by the template 'total and deterministic' (their statements: YtmabbeefeipnaaaTotals.lean).
  GIVEN WITH THE SEED: the statements are not yours to turn. If you find one false, say at which input.
  Laid BY PROGRAM, IN A SANDBOX (cutbox-rows.mjs): the forced cells as the released guide's own fill.sh prints them over the translation e7f88bd786f791ff… (all of the seat's roots in one cut). By AI agents, Wed Nov 11 2026. No macro, syntax, notation, axiom, sorry.
-/
import Derived.Test.YtmabbeefeipnaaaChecked
import GoSem.Claim
import GoSem.ClaimJoined
import GoSem.ClaimMapViews
import Derived.JoinedTies
import Derived.KernelRfl
namespace Go.Proofs.Ytmabbeefeipnaaa
/- THE CELL 'sum', in the pinned program and in every row, IS THE sha256 OF THE DUMP (.gsa) THAT YtmabbeefeipnaaaProg.lean LOADS. Nothing in Lean hashes anything: it is a label: what it is worth is what the hold of that sum in a sandbox is worth. -/
noncomputable def Try.pinned : Pinned := { name := "ytmabbeefeipnaaa", sum := "e7f88bd786f791ffcacb210a78491b10402cda8adcff37674746215c78caf53a", checked := Try.checked }
namespace Rows
def none {H : Type} : Left H := { results := [], args := [] }

/-- 'laws.FnExactKindIn': WHATEVER THE INPUT: true; the input reads as it did. -/
def fnExactKindInSpec : ChangeSpec := { name := "fnExactKindIn", fn := fun _ => fun
  | [d1, d2] => { results := [.lit (.bool true)], args := [d1, d2] }
  | _ => none }
def fnExactKindInRow : OpenClaim := { program := "ytmabbeefeipnaaa", sum := "e7f88bd786f791ffcacb210a78491b10402cda8adcff37674746215c78caf53a", func := "loop.example/g00497/laws.FnExactKindIn", spec := "fnExactKindIn", plainKeys := false, apart := false }
def FnExactKindInSaid : Prop := fnExactKindInRow.holds Try.pinned (OpenSpec.ofChange fnExactKindInSpec)

/-- ITS FALSE NEIGHBOUR: 'it returns false'. Refute it at one input. -/
def fnExactKindInWrong : ChangeSpec := { name := "fnExactKindIn", fn := fun _ => fun
  | [d1, d2] => { results := [.lit (.bool false)], args := [d1, d2] }
  | _ => none }
def FnExactKindInWrongFalsely : Prop := fnExactKindInRow.holds Try.pinned (OpenSpec.ofChange fnExactKindInWrong)

/-- 'laws.FnExactAnswerIn': WHATEVER THE INPUT: true; the input reads as it did. -/
def fnExactAnswerInSpec : ChangeSpec := { name := "fnExactAnswerIn", fn := fun _ => fun
  | [d1, d2] => { results := [.lit (.bool true)], args := [d1, d2] }
  | _ => none }
def fnExactAnswerInRow : OpenClaim := { program := "ytmabbeefeipnaaa", sum := "e7f88bd786f791ffcacb210a78491b10402cda8adcff37674746215c78caf53a", func := "loop.example/g00497/laws.FnExactAnswerIn", spec := "fnExactAnswerIn", unfollowed := true, recurses := true, plainKeys := false, apart := false }
def FnExactAnswerInSaid : Prop := fnExactAnswerInRow.holds Try.pinned (OpenSpec.ofChange fnExactAnswerInSpec)

/-- ITS FALSE NEIGHBOUR: 'it returns false'. Refute it at one input. -/
def fnExactAnswerInWrong : ChangeSpec := { name := "fnExactAnswerIn", fn := fun _ => fun
  | [d1, d2] => { results := [.lit (.bool false)], args := [d1, d2] }
  | _ => none }
def FnExactAnswerInWrongFalsely : Prop := fnExactAnswerInRow.holds Try.pinned (OpenSpec.ofChange fnExactAnswerInWrong)

/-- 'laws.FnExactMoreIn': WHATEVER THE INPUT: true; the input reads as it did. -/
def fnExactMoreInSpec : ChangeSpec := { name := "fnExactMoreIn", fn := fun _ => fun
  | [d1, d2] => { results := [.lit (.bool true)], args := [d1, d2] }
  | _ => none }
def fnExactMoreInRow : OpenClaim := { program := "ytmabbeefeipnaaa", sum := "e7f88bd786f791ffcacb210a78491b10402cda8adcff37674746215c78caf53a", func := "loop.example/g00497/laws.FnExactMoreIn", spec := "fnExactMoreIn", unfollowed := true, recurses := true, plainKeys := false, apart := false }
def FnExactMoreInSaid : Prop := fnExactMoreInRow.holds Try.pinned (OpenSpec.ofChange fnExactMoreInSpec)

/-- ITS FALSE NEIGHBOUR: 'it returns false'. Refute it at one input. -/
def fnExactMoreInWrong : ChangeSpec := { name := "fnExactMoreIn", fn := fun _ => fun
  | [d1, d2] => { results := [.lit (.bool false)], args := [d1, d2] }
  | _ => none }
def FnExactMoreInWrongFalsely : Prop := fnExactMoreInRow.holds Try.pinned (OpenSpec.ofChange fnExactMoreInWrong)

/-- 'laws.FnExactHelpIn': WHATEVER THE INPUT: true; the input reads as it did. -/
def fnExactHelpInSpec : ChangeSpec := { name := "fnExactHelpIn", fn := fun _ => fun
  | [d1, d2] => { results := [.lit (.bool true)], args := [d1, d2] }
  | _ => none }
def fnExactHelpInRow : OpenClaim := { program := "ytmabbeefeipnaaa", sum := "e7f88bd786f791ffcacb210a78491b10402cda8adcff37674746215c78caf53a", func := "loop.example/g00497/laws.FnExactHelpIn", spec := "fnExactHelpIn", unfollowed := true, recurses := true, plainKeys := false, apart := false }
def FnExactHelpInSaid : Prop := fnExactHelpInRow.holds Try.pinned (OpenSpec.ofChange fnExactHelpInSpec)

/-- ITS FALSE NEIGHBOUR: 'it returns false'. Refute it at one input. -/
def fnExactHelpInWrong : ChangeSpec := { name := "fnExactHelpIn", fn := fun _ => fun
  | [d1, d2] => { results := [.lit (.bool false)], args := [d1, d2] }
  | _ => none }
def FnExactHelpInWrongFalsely : Prop := fnExactHelpInRow.holds Try.pinned (OpenSpec.ofChange fnExactHelpInWrong)

/-- 'laws.FnExactServe': WHATEVER THE INPUT: true; the input reads as it did. -/
def fnExactServeSpec : ChangeSpec := { name := "fnExactServe", fn := fun _ => fun
  | [d1, d2] => { results := [.lit (.bool true)], args := [d1, d2] }
  | _ => none }
def fnExactServeRow : OpenClaim := { program := "ytmabbeefeipnaaa", sum := "e7f88bd786f791ffcacb210a78491b10402cda8adcff37674746215c78caf53a", func := "loop.example/g00497/laws.FnExactServe", spec := "fnExactServe", unfollowed := true, recurses := true, plainKeys := false, apart := false }
def FnExactServeSaid : Prop := fnExactServeRow.holds Try.pinned (OpenSpec.ofChange fnExactServeSpec)

/-- ITS FALSE NEIGHBOUR: 'it returns false'. Refute it at one input. -/
def fnExactServeWrong : ChangeSpec := { name := "fnExactServe", fn := fun _ => fun
  | [d1, d2] => { results := [.lit (.bool false)], args := [d1, d2] }
  | _ => none }
def FnExactServeWrongFalsely : Prop := fnExactServeRow.holds Try.pinned (OpenSpec.ofChange fnExactServeWrong)

/-- 'laws.FnExactKindText': WHATEVER THE INPUT: true; the input reads as it did. -/
def fnExactKindTextSpec : ChangeSpec := { name := "fnExactKindText", fn := fun _ => fun
  | [d] => { results := [.lit (.bool true)], args := [d] }
  | _ => none }
def fnExactKindTextRow : OpenClaim := { program := "ytmabbeefeipnaaa", sum := "e7f88bd786f791ffcacb210a78491b10402cda8adcff37674746215c78caf53a", func := "loop.example/g00497/laws.FnExactKindText", spec := "fnExactKindText", plainKeys := false, apart := false }
def FnExactKindTextSaid : Prop := fnExactKindTextRow.holds Try.pinned (OpenSpec.ofChange fnExactKindTextSpec)

/-- ITS FALSE NEIGHBOUR: 'it returns false'. Refute it at one input. -/
def fnExactKindTextWrong : ChangeSpec := { name := "fnExactKindText", fn := fun _ => fun
  | [d] => { results := [.lit (.bool false)], args := [d] }
  | _ => none }
def FnExactKindTextWrongFalsely : Prop := fnExactKindTextRow.holds Try.pinned (OpenSpec.ofChange fnExactKindTextWrong)

/- THE SECOND FORM. 'bulk': how many values and letters a reading holds, each counted each time it is reached (what is shared counts as often as it is met; a slice's spare places count too). A statement '..UptoSaid' is the law's where the arguments, and the package variables that the reading takes, are together of bulk at most 1048576: NARROWER than '..Said'. Prove '..Said' where nothing that the law and all that it calls make is longer than what came in: it says more and counts as full. Else prove '..UptoSaid'. A law counts once. -/
mutual
def uptoBulk {H : Type} : DataW H → Nat
  | .lit (.string bytes) => bytes.length + 1
  | .lit _ => 1
  | .nil => 1
  | .ptr d => uptoBulk d + 1
  | .slice elems spare => uptoBulkAll elems + uptoBulkAll spare + 1
  | .agg parts => uptoBulkAll parts + 1
  | .iface _ d => uptoBulk d + 1
  | .map entries => uptoBulkEntries entries + 1
  | .held _ => 1
def uptoBulkAll {H : Type} : List (DataW H) → Nat
  | [] => 0
  | d :: r => uptoBulk d + uptoBulkAll r
def uptoBulkEntries {H : Type} : List (Lit × DataW H) → Nat
  | [] => 0
  | x :: r => uptoBulkEntry x + uptoBulkEntries r
def uptoBulkEntry {H : Type} : Lit × DataW H → Nat
  | (.string bytes, d) => bytes.length + uptoBulk d + 1
  | (_, d) => uptoBulk d + 1
 end
def uptoSmall : (H : Type) → List (DataW H) → Bool := fun _ ds => decide (uptoBulkAll ds ≤ 1048576)
def OpenSpec.upto (s : _root_.Go.ChangeSpec) : _root_.Go.OpenSpec := { _root_.Go.OpenSpec.ofChange s with cond := some uptoSmall }

/-- 'laws.FnExactKindIn', WHERE WHAT IT READS IS OF BULK AT MOST 1048576: true; the input reads as it did. -/
def fnExactKindInUptoRow : OpenClaim := { program := "ytmabbeefeipnaaa", sum := "e7f88bd786f791ffcacb210a78491b10402cda8adcff37674746215c78caf53a", func := "loop.example/g00497/laws.FnExactKindIn", spec := "fnExactKindIn", plainKeys := false, apart := false, narrowed := true }
def FnExactKindInUptoSaid : Prop := fnExactKindInUptoRow.holds Try.pinned (OpenSpec.upto fnExactKindInSpec)

/-- 'laws.FnExactAnswerIn', WHERE WHAT IT READS IS OF BULK AT MOST 1048576: true; the input reads as it did. -/
def fnExactAnswerInUptoRow : OpenClaim := { program := "ytmabbeefeipnaaa", sum := "e7f88bd786f791ffcacb210a78491b10402cda8adcff37674746215c78caf53a", func := "loop.example/g00497/laws.FnExactAnswerIn", spec := "fnExactAnswerIn", unfollowed := true, recurses := true, plainKeys := false, apart := false, narrowed := true }
def FnExactAnswerInUptoSaid : Prop := fnExactAnswerInUptoRow.holds Try.pinned (OpenSpec.upto fnExactAnswerInSpec)

/-- 'laws.FnExactMoreIn', WHERE WHAT IT READS IS OF BULK AT MOST 1048576: true; the input reads as it did. -/
def fnExactMoreInUptoRow : OpenClaim := { program := "ytmabbeefeipnaaa", sum := "e7f88bd786f791ffcacb210a78491b10402cda8adcff37674746215c78caf53a", func := "loop.example/g00497/laws.FnExactMoreIn", spec := "fnExactMoreIn", unfollowed := true, recurses := true, plainKeys := false, apart := false, narrowed := true }
def FnExactMoreInUptoSaid : Prop := fnExactMoreInUptoRow.holds Try.pinned (OpenSpec.upto fnExactMoreInSpec)

/-- 'laws.FnExactHelpIn', WHERE WHAT IT READS IS OF BULK AT MOST 1048576: true; the input reads as it did. -/
def fnExactHelpInUptoRow : OpenClaim := { program := "ytmabbeefeipnaaa", sum := "e7f88bd786f791ffcacb210a78491b10402cda8adcff37674746215c78caf53a", func := "loop.example/g00497/laws.FnExactHelpIn", spec := "fnExactHelpIn", unfollowed := true, recurses := true, plainKeys := false, apart := false, narrowed := true }
def FnExactHelpInUptoSaid : Prop := fnExactHelpInUptoRow.holds Try.pinned (OpenSpec.upto fnExactHelpInSpec)

/-- 'laws.FnExactServe', WHERE WHAT IT READS IS OF BULK AT MOST 1048576: true; the input reads as it did. -/
def fnExactServeUptoRow : OpenClaim := { program := "ytmabbeefeipnaaa", sum := "e7f88bd786f791ffcacb210a78491b10402cda8adcff37674746215c78caf53a", func := "loop.example/g00497/laws.FnExactServe", spec := "fnExactServe", unfollowed := true, recurses := true, plainKeys := false, apart := false, narrowed := true }
def FnExactServeUptoSaid : Prop := fnExactServeUptoRow.holds Try.pinned (OpenSpec.upto fnExactServeSpec)

/-- 'laws.FnExactKindText', WHERE WHAT IT READS IS OF BULK AT MOST 1048576: true; the input reads as it did. -/
def fnExactKindTextUptoRow : OpenClaim := { program := "ytmabbeefeipnaaa", sum := "e7f88bd786f791ffcacb210a78491b10402cda8adcff37674746215c78caf53a", func := "loop.example/g00497/laws.FnExactKindText", spec := "fnExactKindText", plainKeys := false, apart := false, narrowed := true }
def FnExactKindTextUptoSaid : Prop := fnExactKindTextUptoRow.holds Try.pinned (OpenSpec.upto fnExactKindTextSpec)

end Rows
end Go.Proofs.Ytmabbeefeipnaaa
