/- The law FnExactUp returns true at every text, where the library's variable internal/bytealg.MaxLen holds an int: Up answers as its model. -/
import Derived.Test.YtebodggjcndbeaaUpImpl
namespace Go.Proofs.Ytebodggjcndbeaa.LawUp
open Go.RowKit Go.Proofs.Ytebodggjcndbeaa.Mem Go.Proofs.Ytebodggjcndbeaa.Labels Go.Proofs.Ytebodggjcndbeaa.Up

set_option maxHeartbeats 1000000 in
theorem walk (s : ByteArray) (w : World) (he : Env w) (hs : s.size ≤ maxLen) :
    Calls Try.prog 4 #[.string s] w fun e w' => e = .returned (.bool true) ∧ Below w.heap.size w w' := by
  unfold maxLen at hs
  have HE := Lib.hid he
  clear he
  by_cases hn : s.size ≤ 1048576
  · have SP := Lib.hid (fun w => Up.spec s w hn)
    have IM := Lib.hid (fun w he => UpImpl.impl s w he hn)
    generalize Ab s = U at *
    go_enter Try.func4, Try.ntmps4
    go_wp2_with fail
    refine (SP.out w).mono ?_
    rintro e w1 ⟨rfl, hl⟩
    have L1 := Lib.hid hl
    clear hl
    go_wp2_with fail
    refine (IM.out w1 (HE.out.below L1.out)).mono ?_
    rintro e w2 ⟨rfl, hl⟩
    have L2 := Lib.hid (L1.out.trans (hl.mono L1.out.size))
    clear hl
    go_wp2
    go_ret
    exact ⟨rfl, L2.out⟩
  · go_enter Try.func4, Try.ntmps4
    go_wp2
    go_ret
    exact ⟨rfl, Below.refl _ _⟩
end Go.Proofs.Ytebodggjcndbeaa.LawUp
