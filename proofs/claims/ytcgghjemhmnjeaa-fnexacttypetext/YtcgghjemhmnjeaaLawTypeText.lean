/- The walk of FnExactTypeText. -/
import Derived.Test.YtcgghjemhmnjeaaTypes
import Derived.Below
namespace Go.Proofs.Ytcgghjemhmnjeaa.LawTypeText
open Go.RowKit Go.Proofs.Ytcgghjemhmnjeaa.Types

theorem walk (n : Int) (w : World) (_h : (Lit.int .i64 n).wf = true) : Calls Try.prog 5 #[.int .i64 n] w fun e w' => e = .returned (.bool true) ∧ Below w.heap.size w w' := by
  have C := Lib.hid (spec_text n w)
  have D := Lib.hid (impl_text n w)
  generalize tt n = b at *
  clear _h
  go_enter Try.func5, Try.ntmps5
  go_wp2_with fail
  refine C.out.mono ?_
  rintro e w' ⟨rfl, rfl⟩
  go_wp2_with fail
  refine D.out.mono ?_
  rintro e w' ⟨rfl, rfl⟩
  go_wp2
  go_ret
  exact ⟨rfl, Below.refl _ _⟩

end Go.Proofs.Ytcgghjemhmnjeaa.LawTypeText
