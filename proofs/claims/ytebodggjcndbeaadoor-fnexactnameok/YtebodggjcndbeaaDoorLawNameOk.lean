/- The law FnExactNameOk returns true at every text, where the library's variable internal/bytealg.MaxLen holds an int: NameOk answers as its model. -/
import Derived.Test.YtebodggjcndbeaaDoorNameOk
namespace Go.Proofs.YtebodggjcndbeaaDoor.LawNameOk
open Go.RowKit Go.Proofs.YtebodggjcndbeaaDoor.Mem Go.Proofs.YtebodggjcndbeaaDoor.Labels Go.Proofs.YtebodggjcndbeaaDoor.NameOk

set_option maxHeartbeats 1000000 in
theorem walk (s : ByteArray) (w : World) (he : Env w) :
    Calls Tryd.prog 4 #[.string s] w fun e w' => e = .returned (.bool true) ∧ Below w.heap.size w w' := by
  have HE := Lib.hid he
  clear he
  by_cases hn : s.size ≤ 1048576
  · have SP := Lib.hid (fun w => NameOk.spec s w (by omega))
    have IM := Lib.hid (fun w he => NameOk.impl s w he (by omega))
    have hb' : ¬ (1048576 : Int) < (s.size : Int) := by omega
    generalize Nm s = U at *
    go_enter Tryd.func4, Tryd.ntmps4
    go_wp2_with fail
    refine (SP.out w).mono ?_
    rintro e w1 ⟨rfl, hl⟩
    have L1 := Lib.hid hl
    clear hl
    go_wp2_with fail
    refine (IM.out w1 (HE.out.below L1.out)).mono ?_
    rintro e w2 ⟨rfl, hl⟩
    have L2 := Lib.hid (L1.out.trans (hl.mono L1.out.size))
    clear hl
    cases U
    all_goals
      go_wp2
      go_ret
      exact ⟨rfl, L2.out⟩
  · have hb' : (1048576 : Int) < (s.size : Int) := by omega
    go_enter Tryd.func4, Tryd.ntmps4
    go_wp2
    go_ret
    exact ⟨rfl, Below.refl _ _⟩
end Go.Proofs.YtebodggjcndbeaaDoor.LawNameOk
