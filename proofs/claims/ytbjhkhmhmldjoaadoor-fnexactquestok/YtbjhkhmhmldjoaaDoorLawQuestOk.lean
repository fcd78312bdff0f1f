/- The law FnExactQuestOk returns true at every question, where the library's variable internal/bytealg.MaxLen holds an int: QuestOk answers as its model. -/
import Derived.Test.YtbjhkhmhmldjoaaDoorOkM
import Derived.Test.YtbjhkhmhmldjoaaDoorSzM
import Derived.Test.YtbjhkhmhmldjoaaDoorToM
namespace Go.Proofs.YtbjhkhmhmldjoaaDoor.LawQuestOk
open Go.RowKit Go.Proofs.YtbjhkhmhmldjoaaDoor.Mem Go.Proofs.YtbjhkhmhmldjoaaDoor.MemR Go.Proofs.YtbjhkhmhmldjoaaDoor.Labels Go.Proofs.YtbjhkhmhmldjoaaDoor.MemM Go.Proofs.YtbjhkhmhmldjoaaDoor.SzM Go.Proofs.YtbjhkhmhmldjoaaDoor.ToM Go.Proofs.YtbjhkhmhmldjoaaDoor.OkM

set_option maxHeartbeats 4000000 in
theorem walk (s : ByteArray) (n : Int) (w : World) (he : Env w) (hz : s.size ≤ 9223372036854775807) :
    Calls Tryd.prog 5 #[.agg #[.string s, .int .i64 n]] w fun e w' => e = .returned (.bool true) ∧ Below w.heap.size w w' := by
  have HE := Lib.hid he
  have L0 := Lib.hid ((Below.refl w.heap.size w).alloc (Nat.le_refl _) (.cells #[.string s, .int .i64 n] 44))
  have X0 := Lib.hid (qx_new w 44 s n)
  clear he
  go_enter Tryd.func5, Tryd.ntmps5
  go_wp2_with fail
  refine (szQuest_any s n 1048576 _ (by omega) (by omega) hz).mono ?_
  rintro e w1 ⟨y, rfl, hy0, hy1, hy, hl⟩
  have Y := Lib.hid hy
  have L1 := Lib.hid (L0.out.trans (hl.mono L0.out.size))
  have X1 := Lib.hid (X0.out.below hl)
  clear hl L0 X0
  clear hy 
  by_cases negy : y < 0
  · go_wp2
    go_ret
    exact ⟨rfl, L1.out⟩
  have bz : s.size ≤ 400000000 := by have := Y.out (by omega); omega
  clear Y
  obtain ⟨q, hq⟩ : ∃ q, qok s n = q := ⟨_, rfl⟩
  have HQ := Lib.hid hq
  clear hq
  obtain ⟨z0, z1⟩ := X1.out
  go_wp2_with fail
  refine (toQuest_any s n _).mono ?_
  rintro e w2 ⟨rfl, hl⟩
  have L2 := Lib.hid (L1.out.trans (hl.mono L1.out.size))
  have X2 := Lib.hid (X1.out.below hl)
  clear hl L1 X1
  clear z0 z1 
  go_wp2_with fail
  refine (questS s n _ bz).mono ?_
  rintro e w3 ⟨rfl, hl⟩
  rw [HQ.out]
  have L3 := Lib.hid (L2.out.trans (hl.mono L2.out.size))
  have X3 := Lib.hid (X2.out.below hl)
  clear hl L2 X2
  obtain ⟨z0, z1⟩ := X3.out
  go_wp2_with fail
  refine (toQuest_any s n _).mono ?_
  rintro e w4 ⟨rfl, hl⟩
  have L4 := Lib.hid (L3.out.trans (hl.mono L3.out.size))
  have X4 := Lib.hid (X3.out.below hl)
  clear hl L3 X3
  clear z0 z1 
  go_wp2_with fail
  refine (questI s n _ (HE.out.below L4.out) bz).mono ?_
  rintro e w5 ⟨rfl, hl⟩
  rw [HQ.out]
  have L5 := Lib.hid (L4.out.trans (hl.mono L4.out.size))
  have X5 := Lib.hid (X4.out.below hl)
  clear hl L4 X4
  have hbb : (q != q) = false := by cases q <;> rfl
  go_wp2
  go_ret
  exact ⟨rfl, L5.out⟩
end Go.Proofs.YtbjhkhmhmldjoaaDoor.LawQuestOk
