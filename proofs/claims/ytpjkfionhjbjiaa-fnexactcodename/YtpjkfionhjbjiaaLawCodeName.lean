/- The law FnExactCodeName returns true at every number, and turns nothing that was there: CodeName answers as its model. -/
import Derived.Test.YtpjkfionhjbjiaaCodeName
namespace Go.Proofs.Ytpjkfionhjbjiaa.LawCodeName
open Go.RowKit Go.Proofs.Ytpjkfionhjbjiaa.Mem Go.Proofs.Ytpjkfionhjbjiaa.CodeName

set_option maxHeartbeats 1000000 in
theorem walk (k : Int) (w : World) (_hk : (Lit.int .i64 k).wf = true) :
    Calls Try.prog 3 #[.int .i64 k] w fun e w' => e = .returned (.bool true) ∧ Below w.heap.size w w' := by
  have SP := Lib.hid (fun w => CodeName.spec k w)
  have IM := Lib.hid (fun w => CodeName.impl k w)
  generalize Cn k = U at *
  go_enter Try.func3, Try.ntmps3
  go_wp2_with fail
  refine (SP.out w).mono ?_
  rintro e w1 ⟨rfl, hl⟩
  have L1 := Lib.hid hl
  clear hl
  go_wp2_with fail
  refine (IM.out w1).mono ?_
  rintro e w2 ⟨rfl, hl⟩
  have L2 := Lib.hid (L1.out.trans (hl.mono L1.out.size))
  clear hl
  have hx : (U.data.toList == U.data.toList) = true := by simp
  go_wp2
  go_ret
  exact ⟨rfl, L2.out⟩
end Go.Proofs.Ytpjkfionhjbjiaa.LawCodeName
