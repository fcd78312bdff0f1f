/- The law FnExactRecordText returns true at every record, where the library's variable internal/bytealg.MaxLen holds an int and its table of powers of ten reads as its text lays it: RecordText answers as its model. -/
import Derived.Test.YtcgghjemhmnjeaaDoorRecTextI
import Derived.Test.YtcgghjemhmnjeaaDoorSzR
import Derived.Test.YtcgghjemhmnjeaaDoorCopyR
namespace Go.Proofs.YtcgghjemhmnjeaaDoor.LawRecordText
open Go.RowKit Go.Proofs.YtcgghjemhmnjeaaDoor.Mem Go.Proofs.YtcgghjemhmnjeaaDoor.MemR Go.Proofs.YtcgghjemhmnjeaaDoor.Labels Go.Proofs.YtcgghjemhmnjeaaDoor.RecOk Go.Proofs.YtcgghjemhmnjeaaDoor.Num Go.Proofs.YtcgghjemhmnjeaaDoor.RecText Go.Proofs.YtcgghjemhmnjeaaDoor.RecTextI Go.Proofs.YtcgghjemhmnjeaaDoor.SzR Go.Proofs.YtcgghjemhmnjeaaDoor.CopyR Go.Proofs.YtcgghjemhmnjeaaDoor.BoxR

set_option maxHeartbeats 4000000 in
theorem walk (a : Rec) (w : World) (he : Env w) (ht : Tab w) (hz : a.name.size ≤ 9223372036854775807 ∧ a.host.size ≤ 9223372036854775807 ∧ a.text.size ≤ 9223372036854775807) :
    Calls Tryd.prog 7 #[.agg #[.string a.name, .int .i64 a.ty, .int .i64 a.ttl, .int .i64 a.n, .string a.host, .string a.text]] w fun e w' => e = .returned (.bool true) ∧ Below w.heap.size w w' := by
  have HE := Lib.hid he
  have HT := Lib.hid ht
  have Z0 := Lib.hid hz
  clear he ht hz
  have B0 := Lib.hid ((Below.refl w.heap.size w).alloc (Nat.le_refl _) (.cells #[.string a.name, .int .i64 a.ty, .int .i64 a.ttl, .int .i64 a.n, .string a.host, .string a.text] 38))
  have X0 := Lib.hid (bx_new w 38 a)
  go_enter Tryd.func7, Tryd.ntmps7
  go_wp2_with fail
  refine (szRecord_any a 1048576 _ (by omega) (by omega) Z0.out).mono ?_
  rintro e w1 ⟨y, rfl, hy0, hy1, hy, hl⟩
  have YY := Lib.hid hy
  have L1 := Lib.hid (B0.out.trans (hl.mono B0.out.size))
  have X1 := Lib.hid (X0.out.below hl)
  clear hy hl X0 B0
  by_cases hneg : y < 0
  · go_wp2
    go_ret
    exact ⟨rfl, L1.out⟩
  have FA := Lib.hid (show Mod a by
    have h := YY.out (by omega)
    unfold rz at h
    exact ⟨by omega, by omega, by omega⟩)
  clear YY
  obtain ⟨u, hu⟩ : ∃ u, rtx a = u := ⟨_, rfl⟩
  have HU := Lib.hid hu
  clear hu
  obtain ⟨x0, x1, x2, x3, x4, x5⟩ := X1.out
  go_wp2_with fail
  refine (toRecord_any a w1).mono ?_
  rintro e w2 ⟨rfl, hl⟩
  have L2 := Lib.hid (L1.out.trans (hl.mono L1.out.size))
  have X2 := Lib.hid (X1.out.below hl)
  clear hl X1 L1 x0 x1 x2 x3 x4 x5
  go_wp2_with fail
  refine (RecText.spec a w2 FA.out).mono ?_
  rw [HU.out]
  rintro e w3 ⟨rfl, hl⟩
  have L3 := Lib.hid (L2.out.trans (hl.mono L2.out.size))
  have X3 := Lib.hid (X2.out.below hl)
  clear hl X2 L2
  obtain ⟨x0, x1, x2, x3, x4, x5⟩ := X3.out
  go_wp2_with fail
  refine (toRecord_any a w3).mono ?_
  rintro e w4 ⟨rfl, hl⟩
  have L4 := Lib.hid (L3.out.trans (hl.mono L3.out.size))
  clear hl X3 L3 x0 x1 x2 x3 x4 x5
  go_wp2_with fail
  refine (RecTextI.impl a w4 (HE.out.below L4.out) (HT.out.below L4.out) FA.out).mono ?_
  rw [HU.out]
  rintro e w5 ⟨rfl, hl⟩
  have L5 := Lib.hid (L4.out.trans (hl.mono L4.out.size))
  clear hl L4 HU
  go_wp2
  go_ret
  exact ⟨rfl, L5.out⟩
end Go.Proofs.YtcgghjemhmnjeaaDoor.LawRecordText
