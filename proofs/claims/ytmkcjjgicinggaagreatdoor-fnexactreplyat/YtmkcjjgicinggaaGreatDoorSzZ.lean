/- What the law's own helper szZone does: it returns a number that is not negative only where the records and the bytes of all texts are at most the given number together. -/
import Derived.Test.YtmkcjjgicinggaaGreatDoorSzR
import Derived.Test.YtmkcjjgicinggaaGreatDoorMemZ
namespace Go.Proofs.YtmkcjjgicinggaaGreatDoor.SzZ
open Go.RowKit Go.Proofs.YtmkcjjgicinggaaGreatDoor.Mem Go.Proofs.YtmkcjjgicinggaaGreatDoor.MemR Go.Proofs.YtmkcjjgicinggaaGreatDoor.BoxR Go.Proofs.YtmkcjjgicinggaaGreatDoor.MemZ Go.Proofs.YtmkcjjgicinggaaGreatDoor.SzR

set_option maxHeartbeats 2000000 in
theorem szZone_any (s : ByteArray) (A : Option Addr) (n c : Nat) (l : List Rec) (x : Int) (w : World) (h0 : 0 ≤ x) (h1 : x ≤ 1048576) (hq : s.size ≤ 9223372036854775807)
    (hs : Sr w w.heap.size A n l) (hn : n ≤ 9223372036854775807) (hz : ∀ r ∈ l, r.name.size ≤ 9223372036854775807 ∧ r.host.size ≤ 9223372036854775807 ∧ r.text.size ≤ 9223372036854775807) :
    Calls Tryz.prog 140 #[.agg #[.string s, .slice A n c], .int .i64 x] w (Sz x (s.size + (l.length + tot l)) w) := by
  have L0 := Lib.hid ((Below.refl w.heap.size w).alloc (Nat.le_refl _) (.cells #[.string s, .slice A n c] 161))
  have X0 := Lib.hid (zx_new w 161 s (.slice A n c))
  have S0 := Lib.hid (hs.on L0.out)
  have Z := Lib.hid hz
  clear hs hz
  by_cases neg : x - (s.size : Int) < 0
  · go_enter Tryz.func140, Tryz.ntmps140
    go_wp2
    go_ret
    exact ⟨-1, rfl, by omega, by omega, fun h => by omega, L0.out⟩
  obtain ⟨x0, x1⟩ := X0.out
  go_enter Tryz.func140, Tryz.ntmps140
  go_wp2_with fail
  refine (szRecordS_any A n c l (x - s.size) _ S0.out (by omega) (by omega) hn Z.out).mono ?_
  rintro e w2 ⟨y2, rfl, a2, b2, e2, hl⟩
  have Y2 := Lib.hid e2
  have L2 := Lib.hid (L0.out.trans (hl.mono L0.out.size))
  clear hl L0 X0 S0 e2 x0 x1
  by_cases neg2 : y2 < 0
  · go_wp2
    go_ret
    exact ⟨-1, rfl, by omega, by omega, fun h => by omega, L2.out⟩
  go_wp2
  go_ret
  refine ⟨y2, rfl, by omega, by omega, fun _ => ?_, L2.out⟩
  have q2 := Y2.out (by omega)
  push_cast at q2 ⊢
  omega
end Go.Proofs.YtmkcjjgicinggaaGreatDoor.SzZ
