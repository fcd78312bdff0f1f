/- The law FnExactPartsOf returns true at every text, where the library's variable internal/bytealg.MaxLen holds an int: PartsOf answers as its model. -/
import Derived.Test.YtebodggjcndbeaaDoorParts
namespace Go.Proofs.YtebodggjcndbeaaDoor.LawPartsOf
open Go.RowKit Go.Proofs.YtebodggjcndbeaaDoor.Mem Go.Proofs.YtebodggjcndbeaaDoor.Split Go.Proofs.YtebodggjcndbeaaDoor.Labels

set_option maxHeartbeats 1000000 in
theorem walk (s : ByteArray) (w : World) (he : Env w) :
    Calls Tryd.prog 5 #[.string s] w fun e w' => e = .returned (.bool true) ∧ Below w.heap.size w w' := by
  have HE := Lib.hid he
  clear he
  by_cases hn : s.size ≤ 1048576
  · have SP := Lib.hid (fun w => Parts.spec s w (by omega))
    have IM := Lib.hid (fun w he => Parts.impl s w he (by omega))
    have hb' : ¬ (1048576 : Int) < (s.size : Int) := by omega
    generalize (Lab s).length = U at *
    go_enter Tryd.func5, Tryd.ntmps5
    go_wp2_with fail
    refine (SP.out w).mono ?_
    rintro e w1 ⟨rfl, hl⟩
    have L1 := Lib.hid hl
    clear hl
    go_wp2_with fail
    refine (IM.out w1 (HE.out.below L1.out)).mono ?_
    rintro e w2 ⟨rfl, hl⟩
    have L2 := Lib.hid (L1.out.trans (hl.mono L1.out.size))
    clear hl
    go_wp2
    go_ret
    exact ⟨rfl, L2.out⟩
  · have hb' : (1048576 : Int) < (s.size : Int) := by omega
    go_enter Tryd.func5, Tryd.ntmps5
    go_wp2
    go_ret
    exact ⟨rfl, Below.refl _ _⟩
end Go.Proofs.YtebodggjcndbeaaDoor.LawPartsOf
