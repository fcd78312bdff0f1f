/- The law FnExactLabelOk returns true at every text: LabelOk answers as its model. -/
import Derived.Test.YtnjdgdpkodpoiaaLabel
namespace Go.Proofs.Ytnjdgdpkodpoiaa.LawLabelOk
open Go.RowKit Go.Proofs.Ytnjdgdpkodpoiaa.Mem Go.Proofs.Ytnjdgdpkodpoiaa.Label

set_option maxHeartbeats 1000000 in
theorem walk (s : ByteArray) (w : World) (hs : s.size ≤ maxLen) :
    Calls Try.prog 4 #[.string s] w fun e w' => e = .returned (.bool true) ∧ Below w.heap.size w w' := by
  unfold maxLen at hs
  by_cases hn : s.size ≤ 1048576
  · go_enter Try.func4, Try.ntmps4
    go_wp2_with fail
    refine (spec_any s w (by omega)).mono ?_
    rintro e w1 ⟨rfl, rfl⟩
    go_wp2_with fail
    refine (impl_any s w (by omega)).mono ?_
    rintro e w2 ⟨rfl, hl⟩
    have HL := Lib.hid hl
    clear hl
    cases hb : lok s.data.toList
    all_goals
      have HB := Lib.hid hb
      clear hb
      go_wp2
      go_ret
      exact ⟨rfl, HL.out⟩
  · go_enter Try.func4, Try.ntmps4
    go_wp2
    go_ret
    exact ⟨rfl, Below.refl _ _⟩
end Go.Proofs.Ytnjdgdpkodpoiaa.LawLabelOk
