/- The law FnExactLessName returns true at every two texts, where the library's variable internal/bytealg.MaxLen holds an int: LessName answers as its model. -/
import Derived.Test.YtebodggjcndbeaaDoorLess
namespace Go.Proofs.YtebodggjcndbeaaDoor.LawLessName
open Go.RowKit Go.Proofs.YtebodggjcndbeaaDoor.Mem Go.Proofs.YtebodggjcndbeaaDoor.Labels Go.Proofs.YtebodggjcndbeaaDoor.NameMath

set_option maxHeartbeats 1000000 in
theorem walk (a b : ByteArray) (w : World) (he : Env w) :
    Calls Tryd.prog 6 #[.string a, .string b] w fun e w' => e = .returned (.bool true) ∧ Below w.heap.size w w' := by
  have HE := Lib.hid he
  clear he
  by_cases hn : a.size ≤ 1048576
  · have hb' : ¬ (1048576 : Int) < (a.size : Int) := by omega
    by_cases hm : b.size ≤ 1048576
    · have hb2 : ¬ (1048576 : Int) < (b.size : Int) := by omega
      have SP := Lib.hid (fun w => Less.spec a b w (by omega) (by omega))
      have IM := Lib.hid (fun w he => Less.impl a b w he (by omega) (by omega))
      generalize Ls a b = U at *
      go_enter Tryd.func6, Tryd.ntmps6
      go_wp2_with fail
      refine (SP.out w).mono ?_
      rintro e w1 ⟨rfl, hl⟩
      have L1 := Lib.hid hl
      clear hl
      go_wp2_with fail
      refine (IM.out w1 (HE.out.below L1.out)).mono ?_
      rintro e w2 ⟨rfl, hl⟩
      have L2 := Lib.hid (L1.out.trans (hl.mono L1.out.size))
      clear hl
      cases U
      all_goals
        go_wp2
        go_ret
        exact ⟨rfl, L2.out⟩
    · have hb2 : (1048576 : Int) < (b.size : Int) := by omega
      go_enter Tryd.func6, Tryd.ntmps6
      go_wp2
      go_ret
      exact ⟨rfl, Below.refl _ _⟩
  · have hb' : (1048576 : Int) < (a.size : Int) := by omega
    go_enter Tryd.func6, Tryd.ntmps6
    go_wp2
    go_ret
    exact ⟨rfl, Below.refl _ _⟩
end Go.Proofs.YtebodggjcndbeaaDoor.LawLessName
