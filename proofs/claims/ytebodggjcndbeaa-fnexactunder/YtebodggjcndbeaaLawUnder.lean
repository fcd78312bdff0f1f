/- The law FnExactUnder returns true at every two texts: Under answers as its model. -/
import Derived.Test.YtebodggjcndbeaaUnder
import Derived.Test.YtebodggjcndbeaaUnderImpl
namespace Go.Proofs.Ytebodggjcndbeaa.LawUnder
open Go.RowKit Go.Proofs.Ytebodggjcndbeaa.Mem Go.Proofs.Ytebodggjcndbeaa.NameMath

set_option maxHeartbeats 1000000 in
theorem walk (a b : ByteArray) (w : World) (ha : a.size ≤ maxLen) (hb : b.size ≤ maxLen) :
    Calls Try.prog 3 #[.string a, .string b] w fun e w' => e = .returned (.bool true) ∧ Below w.heap.size w w' := by
  unfold maxLen at ha hb
  by_cases hn : a.size ≤ 1048576
  · by_cases hm : b.size ≤ 1048576
    · have SP := Lib.hid (fun w => Under.spec a b w (by omega) (by omega))
      have IM := Lib.hid (fun w => UnderImpl.impl a b w (by omega) (by omega))
      generalize Un a b = U at *
      go_enter Try.func3, Try.ntmps3
      go_wp2_with fail
      refine (SP.out w).mono ?_
      rintro e w1 ⟨rfl, hl⟩
      have HL := Lib.hid hl
      clear hl
      go_wp2_with fail
      refine (IM.out w1).mono ?_
      rintro e w2 ⟨rfl, rfl⟩
      cases U
      all_goals
        go_wp2
        go_ret
        exact ⟨rfl, HL.out⟩
    · go_enter Try.func3, Try.ntmps3
      go_wp2
      go_ret
      exact ⟨rfl, Below.refl _ _⟩
  · go_enter Try.func3, Try.ntmps3
    go_wp2
    go_ret
    exact ⟨rfl, Below.refl _ _⟩
end Go.Proofs.Ytebodggjcndbeaa.LawUnder
