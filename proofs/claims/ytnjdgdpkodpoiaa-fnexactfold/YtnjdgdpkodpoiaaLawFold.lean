/- The law FnExactFold returns true at every text: Fold answers as its model. -/
import Derived.Test.YtnjdgdpkodpoiaaFold
namespace Go.Proofs.Ytnjdgdpkodpoiaa.LawFold
open Go.RowKit Go.Proofs.Ytnjdgdpkodpoiaa.Mem Go.Proofs.Ytnjdgdpkodpoiaa.Fold

theorem not_ne (s : ByteArray) : (!(s.data.toList == s.data.toList)) = false := by simp
set_option maxHeartbeats 1000000 in
theorem walk (s : ByteArray) (w : World) (hs : s.size ≤ maxLen) :
    Calls Try.prog 5 #[.string s] w fun e w' => e = .returned (.bool true) ∧ Below w.heap.size w w' := by
  unfold maxLen at hs
  by_cases hn : s.size ≤ 1048576
  · go_enter Try.func5, Try.ntmps5
    go_wp2_with fail
    refine (spec_any s w (by omega)).mono ?_
    rintro e w1 ⟨rfl, hl1⟩
    have HL1 := Lib.hid hl1
    clear hl1
    go_wp2_with fail
    refine (impl_any s w1 (by omega)).mono ?_
    rintro e w2 ⟨rfl, hl⟩
    have HL := Lib.hid (HL1.out.trans (hl.mono HL1.out.size))
    clear hl
    have h1 : ((Fo s).data.toList == (Fo s).data.toList) = true := by simp
    go_wp2
    go_ret
    exact ⟨rfl, HL.out⟩
  · go_enter Try.func5, Try.ntmps5
    go_wp2
    go_ret
    exact ⟨rfl, Below.refl _ _⟩
end Go.Proofs.Ytnjdgdpkodpoiaa.LawFold
