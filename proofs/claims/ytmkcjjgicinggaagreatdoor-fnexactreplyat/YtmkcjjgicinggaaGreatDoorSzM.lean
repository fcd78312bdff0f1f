/- What the law's own helpers szQuest and szMsg do: they return a number that is not negative only where the records and the bytes of all texts are at most the given number together. -/
import Derived.Test.YtmkcjjgicinggaaGreatDoorSzR
import Derived.Test.YtmkcjjgicinggaaGreatDoorMemM
namespace Go.Proofs.YtmkcjjgicinggaaGreatDoor.SzM
open Go.RowKit Go.Proofs.YtmkcjjgicinggaaGreatDoor.Mem Go.Proofs.YtmkcjjgicinggaaGreatDoor.MemR Go.Proofs.YtmkcjjgicinggaaGreatDoor.BoxR Go.Proofs.YtmkcjjgicinggaaGreatDoor.MemM Go.Proofs.YtmkcjjgicinggaaGreatDoor.SzR

/-- The bytes of all texts, and the records. -/
def mz (h : Hd) (l1 l2 l3 : List Rec) : Nat := h.qn.size + (l1.length + tot l1) + (l2.length + tot l2) + (l3.length + tot l3)
/-- Records whose texts are no longer than any text. -/
def Sms (l : List Rec) : Prop := ∀ r ∈ l, r.name.size ≤ 9223372036854775807 ∧ r.host.size ≤ 9223372036854775807 ∧ r.text.size ≤ 9223372036854775807

set_option maxHeartbeats 1000000 in
theorem szQuest_any (s : ByteArray) (n x : Int) (w : World) (h0 : 0 ≤ x) (h1 : x ≤ 1048576) (hz : s.size ≤ 9223372036854775807) :
    Calls Tryz.prog 95 #[.agg #[.string s, .int .i64 n], .int .i64 x] w (Sz x s.size w) := by
  by_cases c1 : x - (s.size : Int) < 0
  · go_enter Tryz.func95, Tryz.ntmps95
    go_wp2
    go_ret
    exact ⟨-1, rfl, by omega, by omega, fun h => by omega, (Below.refl _ _).alloc (Nat.le_refl _) _⟩
  · go_enter Tryz.func95, Tryz.ntmps95
    go_wp2
    go_ret
    exact ⟨_, rfl, by omega, by omega, fun h => by omega, (Below.refl _ _).alloc (Nat.le_refl _) _⟩

set_option maxHeartbeats 4000000 in
theorem szMsg_any (h : Hd) (A1 : Option Addr) (n1 c1 : Nat) (l1 : List Rec) (A2 : Option Addr) (n2 c2 : Nat) (l2 : List Rec) (A3 : Option Addr) (n3 c3 : Nat) (l3 : List Rec) (x : Int) (w : World) (h0 : 0 ≤ x) (h1 : x ≤ 1048576) (hq : h.qn.size ≤ 9223372036854775807)
    (s1 : Sr w w.heap.size A1 n1 l1) (m1 : n1 ≤ 9223372036854775807) (z1 : Sms l1) (s2 : Sr w w.heap.size A2 n2 l2) (m2 : n2 ≤ 9223372036854775807) (z2 : Sms l2) (s3 : Sr w w.heap.size A3 n3 l3) (m3 : n3 ≤ 9223372036854775807) (z3 : Sms l3) :
    Calls Tryz.prog 42 #[.agg #[.int .i64 h.id, .bool h.rp, .bool h.au, .bool h.ct, .bool h.wa, .bool h.ca, .int .i64 h.code, .string h.qn, .int .i64 h.qt, .slice A1 n1 c1, .slice A2 n2 c2, .slice A3 n3 c3], .int .i64 x] w (Sz x (mz h l1 l2 l3) w) := by
  have L0 := Lib.hid ((Below.refl w.heap.size w).alloc (Nat.le_refl _) (.cells #[.int .i64 h.id, .bool h.rp, .bool h.au, .bool h.ct, .bool h.wa, .bool h.ca, .int .i64 h.code, .string h.qn, .int .i64 h.qt, .slice A1 n1 c1, .slice A2 n2 c2, .slice A3 n3 c3] 73))
  have X0 := Lib.hid (mx_new w 73 h (.slice A1 n1 c1) (.slice A2 n2 c2) (.slice A3 n3 c3))
  have S0 := Lib.hid (s1.on L0.out)
  have T0 := Lib.hid (s2.on L0.out)
  have U0 := Lib.hid (s3.on L0.out)
  have Z1 := Lib.hid z1
  have Z2 := Lib.hid z2
  have Z3 := Lib.hid z3
  clear s1 s2 s3 z1 z2 z3
  go_enter Tryz.func42, Tryz.ntmps42
  go_wp2_with fail
  refine (szQuest_any h.qn h.qt x _ h0 h1 hq).mono ?_
  rintro e w1 ⟨y1, rfl, a1, b1, e1, hl⟩
  have Y1 := Lib.hid e1
  have L1 := Lib.hid (L0.out.trans (hl.mono L0.out.size))
  have X1 := Lib.hid (X0.out.below hl)
  have S1 := Lib.hid (S0.out.on hl)
  have T1 := Lib.hid (T0.out.on hl)
  have U1 := Lib.hid (U0.out.on hl)
  clear hl L0 X0 S0 T0 U0 e1
  by_cases neg1 : y1 < 0
  · go_wp2
    go_ret
    exact ⟨-1, rfl, by omega, by omega, fun h => by omega, L1.out⟩
  obtain ⟨x0, x1, x2, x3, x4, x5, x6, x7, x8, x9, x10, x11⟩ := X1.out
  go_wp2_with fail
  refine (szRecordS_any A1 n1 c1 l1 y1 w1 S1.out (by omega) (by omega) m1 Z1.out).mono ?_
  rintro e w2 ⟨y2, rfl, a2, b2, e2, hl⟩
  have Y2 := Lib.hid e2
  have L2 := Lib.hid (L1.out.trans (hl.mono L1.out.size))
  have X2 := Lib.hid (X1.out.below hl)
  have T2 := Lib.hid (T1.out.on hl)
  have U2 := Lib.hid (U1.out.on hl)
  clear hl L1 X1 S1 T1 U1 e2 x0 x1 x2 x3 x4 x5 x6 x7 x8 x9 x10 x11
  by_cases neg2 : y2 < 0
  · go_wp2
    go_ret
    exact ⟨-1, rfl, by omega, by omega, fun h => by omega, L2.out⟩
  obtain ⟨x0, x1, x2, x3, x4, x5, x6, x7, x8, x9, x10, x11⟩ := X2.out
  go_wp2_with fail
  refine (szRecordS_any A2 n2 c2 l2 y2 w2 T2.out (by omega) (by omega) m2 Z2.out).mono ?_
  rintro e w3 ⟨y3, rfl, a3, b3, e3, hl⟩
  have Y3 := Lib.hid e3
  have L3 := Lib.hid (L2.out.trans (hl.mono L2.out.size))
  have X3 := Lib.hid (X2.out.below hl)
  have U3 := Lib.hid (U2.out.on hl)
  clear hl L2 X2 T2 U2 e3 x0 x1 x2 x3 x4 x5 x6 x7 x8 x9 x10 x11
  by_cases neg3 : y3 < 0
  · go_wp2
    go_ret
    exact ⟨-1, rfl, by omega, by omega, fun h => by omega, L3.out⟩
  obtain ⟨x0, x1, x2, x3, x4, x5, x6, x7, x8, x9, x10, x11⟩ := X3.out
  go_wp2_with fail
  refine (szRecordS_any A3 n3 c3 l3 y3 w3 U3.out (by omega) (by omega) m3 Z3.out).mono ?_
  rintro e w4 ⟨y4, rfl, a4, b4, e4, hl⟩
  have Y4 := Lib.hid e4
  have L4 := Lib.hid (L3.out.trans (hl.mono L3.out.size))
  clear hl L3 X3 U3 e4 x0 x1 x2 x3 x4 x5 x6 x7 x8 x9 x10 x11
  by_cases neg4 : y4 < 0
  · go_wp2
    go_ret
    exact ⟨-1, rfl, by omega, by omega, fun h => by omega, L4.out⟩
  go_wp2
  go_ret
  refine ⟨y4, rfl, by omega, by omega, fun _ => ?_, L4.out⟩
  have q1 := Y1.out (by omega)
  have q2 := Y2.out (by omega)
  have q3 := Y3.out (by omega)
  have q4 := Y4.out (by omega)
  unfold mz
  push_cast at q1 q2 q3 q4 ⊢
  omega
end Go.Proofs.YtmkcjjgicinggaaGreatDoor.SzM
