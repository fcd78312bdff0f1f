/- What PartsOf does in the program and in the model: it returns the number of labels. Condition: at most 2000000 bytes; for the program: the library's variable internal/bytealg.MaxLen holds an int. -/
import Derived.Test.YtcgghjemhmnjeaaDoorLabels
namespace Go.Proofs.YtcgghjemhmnjeaaDoor.Parts
open Go.RowKit Go.Proofs.YtcgghjemhmnjeaaDoor.Mem Go.Proofs.YtcgghjemhmnjeaaDoor.MemS Go.Proofs.YtcgghjemhmnjeaaDoor.AppS Go.Proofs.YtcgghjemhmnjeaaDoor.Split Go.Proofs.YtcgghjemhmnjeaaDoor.Labels

set_option maxHeartbeats 1000000 in
theorem impl (s : ByteArray) (w : World) (he : Env w) (hs : s.size ≤ 2000000) : Calls Tryd.prog 69 #[.string s] w fun e w' => e = .returned (.int .i64 ((Lab s).length : Int)) ∧ Below w.heap.size w w' := by
  have SP := Lib.hid (Labels.impl s w he hs)
  clear he
  generalize Lab s = L at *
  go_enter Tryd.func69, Tryd.ntmps69
  go_wp2_with fail
  refine SP.out.mono ?_
  rintro e w1 ⟨g, n, c, r, rfl, hm, hc, hg, hk, hl⟩
  have NL := Lib.hid hm
  have L1 := Lib.hid hl
  clear hm hg hk hl
  go_wp2
  go_ret
  rw [NL.out]
  exact ⟨rfl, L1.out⟩
end Go.Proofs.YtcgghjemhmnjeaaDoor.Parts
