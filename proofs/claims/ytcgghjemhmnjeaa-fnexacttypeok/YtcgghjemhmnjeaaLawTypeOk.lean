/- The walk of FnExactTypeOk. -/
import Derived.Test.YtcgghjemhmnjeaaTypes
import Derived.Below
namespace Go.Proofs.Ytcgghjemhmnjeaa.LawTypeOk
open Go.RowKit Go.Proofs.Ytcgghjemhmnjeaa.Types

theorem walk (n : Int) (w : World) (_h : (Lit.int .i64 n).wf = true) : Calls Try.prog 3 #[.int .i64 n] w fun e w' => e = .returned (.bool true) ∧ Below w.heap.size w w' := by
  have C := Lib.hid (spec_ok n w)
  have D := Lib.hid (impl_ok n w)
  generalize ty n = b at *
  clear _h
  cases b
  all_goals
    go_enter Try.func3, Try.ntmps3
    go_wp2_with fail
    refine C.out.mono ?_
    rintro e w' ⟨rfl, rfl⟩
    go_wp2_with fail
    refine D.out.mono ?_
    rintro e w' ⟨rfl, rfl⟩
    go_wp2
    go_ret
    exact ⟨rfl, Below.refl _ _⟩

end Go.Proofs.Ytcgghjemhmnjeaa.LawTypeOk
