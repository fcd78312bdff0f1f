/- What PartsOf does in the program and in the model: it returns the number of labels. Condition: at most 400000000 bytes; for the program: the library's variable internal/bytealg.MaxLen holds an int. -/
import Derived.Test.YtmkcjjgicinggaaGreatDoorLabels
namespace Go.Proofs.YtmkcjjgicinggaaGreatDoor.Parts
open Go.RowKit Go.Proofs.YtmkcjjgicinggaaGreatDoor.Mem Go.Proofs.YtmkcjjgicinggaaGreatDoor.MemS Go.Proofs.YtmkcjjgicinggaaGreatDoor.AppS Go.Proofs.YtmkcjjgicinggaaGreatDoor.Split Go.Proofs.YtmkcjjgicinggaaGreatDoor.Labels

set_option maxHeartbeats 1000000 in
theorem spec (s : ByteArray) (w : World) (hs : s.size ≤ 400000000) : Calls Tryz.prog 80 #[.string s] w fun e w' => e = .returned (.int .i64 ((Lab s).length : Int)) ∧ Below w.heap.size w w' := by
  have SP := Lib.hid (fun w => Labels.spec s w hs)
  generalize Lab s = L at *
  go_enter Tryz.func80, Tryz.ntmps80
  go_wp2_with fail
  refine (SP.out w).mono ?_
  rintro e w1 ⟨g, n, c, r, rfl, hm, hc, hg, hk, hl⟩
  have NL := Lib.hid hm
  have L1 := Lib.hid hl
  clear hm hg hk hl
  go_wp2
  go_ret
  rw [NL.out]
  exact ⟨rfl, L1.out⟩

set_option maxHeartbeats 1000000 in
theorem impl (s : ByteArray) (w : World) (he : Env w) (hs : s.size ≤ 400000000) : Calls Tryz.prog 210 #[.string s] w fun e w' => e = .returned (.int .i64 ((Lab s).length : Int)) ∧ Below w.heap.size w w' := by
  have SP := Lib.hid (Labels.impl s w he hs)
  clear he
  generalize Lab s = L at *
  go_enter Tryz.func210, Tryz.ntmps210
  go_wp2_with fail
  refine SP.out.mono ?_
  rintro e w1 ⟨g, n, c, r, rfl, hm, hc, hg, hk, hl⟩
  have NL := Lib.hid hm
  have L1 := Lib.hid hl
  clear hm hg hk hl
  go_wp2
  go_ret
  rw [NL.out]
  exact ⟨rfl, L1.out⟩
end Go.Proofs.YtmkcjjgicinggaaGreatDoor.Parts
