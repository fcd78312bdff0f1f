/- What the law's own helper eqZone does on zones that are the same: it returns true and turns nothing. Condition: fewer than 400000001 records. -/
import Derived.Test.YtmkcjjgicinggaaGreatDoorEqR
import Derived.Test.YtmkcjjgicinggaaGreatDoorMemZ
namespace Go.Proofs.YtmkcjjgicinggaaGreatDoor.EqZ
open Go.RowKit Go.Proofs.YtmkcjjgicinggaaGreatDoor.Mem Go.Proofs.YtmkcjjgicinggaaGreatDoor.MemR Go.Proofs.YtmkcjjgicinggaaGreatDoor.BoxR Go.Proofs.YtmkcjjgicinggaaGreatDoor.MemZ Go.Proofs.YtmkcjjgicinggaaGreatDoor.EqR

set_option maxHeartbeats 2000000 in
theorem eqZone_same (s : ByteArray) (A A' : Option Addr) (n c c' : Nat) (l : List Rec) (w : World) (hs : Sr w w.heap.size A n l) (ht : Sr w w.heap.size A' n l) (hn : n ≤ 400000000) :
    Calls Tryz.prog 144 #[.agg #[.string s, .slice A n c], .agg #[.string s, .slice A' n c']] w fun e w' => e = .returned (.bool true) ∧ Below w.heap.size w w' := by
  have L0 := Lib.hid (((Below.refl w.heap.size w).alloc (Nat.le_refl _) (.cells #[.string s, .slice A n c] 37)).alloc (by simp) (.cells #[.string s, .slice A' n c'] 37))
  have X0 := Lib.hid ((zx_new w 37 s (.slice A n c)).alloc (.cells #[.string s, .slice A' n c'] 37))
  have S0 := Lib.hid (hs.on L0.out)
  have T0 := Lib.hid (ht.on L0.out)
  clear hs ht
  obtain ⟨x0, x1⟩ := X0.out
  go_enter Tryz.func144, Tryz.ntmps144
  go_wp2_with fail
  refine (eqRecordS_same A A' n c c' l _ S0.out T0.out hn).mono ?_
  rintro e w2 ⟨rfl, hl⟩
  have L2 := Lib.hid (L0.out.trans (hl.mono L0.out.size))
  clear hl L0 X0 S0 T0 x0 x1
  go_wp2
  go_ret
  exact ⟨rfl, L2.out⟩
end Go.Proofs.YtmkcjjgicinggaaGreatDoor.EqZ
