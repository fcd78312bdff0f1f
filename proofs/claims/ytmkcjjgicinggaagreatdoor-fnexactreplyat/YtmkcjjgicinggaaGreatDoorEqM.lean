/- What the law's own helpers eqQuest and eqMsg do on messages that are the same: they return true and turn nothing. Condition: fewer than 400000001 records in each section. -/
import Derived.Test.YtmkcjjgicinggaaGreatDoorEqR
import Derived.Test.YtmkcjjgicinggaaGreatDoorResM
namespace Go.Proofs.YtmkcjjgicinggaaGreatDoor.EqM
open Go.RowKit Go.Proofs.YtmkcjjgicinggaaGreatDoor.Mem Go.Proofs.YtmkcjjgicinggaaGreatDoor.MemR Go.Proofs.YtmkcjjgicinggaaGreatDoor.BoxR Go.Proofs.YtmkcjjgicinggaaGreatDoor.MemM Go.Proofs.YtmkcjjgicinggaaGreatDoor.EqR Go.Proofs.YtmkcjjgicinggaaGreatDoor.ResM

set_option maxHeartbeats 1000000 in
theorem eqQuest_same (s : ByteArray) (n : Int) (w : World) : Calls Tryz.prog 99 #[.agg #[.string s, .int .i64 n], .agg #[.string s, .int .i64 n]] w fun e w' => e = .returned (.bool true) ∧ Below w.heap.size w w' := by
  go_enter Tryz.func99, Tryz.ntmps99
  go_wp2
  go_ret
  exact ⟨rfl, ((Below.refl _ _).alloc (Nat.le_refl _) _).alloc (by simp) _⟩

set_option maxHeartbeats 4000000 in
theorem eqMsg_same (h : Hd) (A1 A1' : Option Addr) (n1 c1 c1' : Nat) (l1 : List Rec) (A2 A2' : Option Addr) (n2 c2 c2' : Nat) (l2 : List Rec) (A3 A3' : Option Addr) (n3 c3 c3' : Nat) (l3 : List Rec) (w : World)
    (s1 : Sr w w.heap.size A1 n1 l1) (t1 : Sr w w.heap.size A1' n1 l1) (m1 : n1 ≤ 400000000) (s2 : Sr w w.heap.size A2 n2 l2) (t2 : Sr w w.heap.size A2' n2 l2) (m2 : n2 ≤ 400000000) (s3 : Sr w w.heap.size A3 n3 l3) (t3 : Sr w w.heap.size A3' n3 l3) (m3 : n3 ≤ 400000000) :
    Calls Tryz.prog 44 #[.agg #[.int .i64 h.id, .bool h.rp, .bool h.au, .bool h.ct, .bool h.wa, .bool h.ca, .int .i64 h.code, .string h.qn, .int .i64 h.qt, .slice A1 n1 c1, .slice A2 n2 c2, .slice A3 n3 c3], .agg #[.int .i64 h.id, .bool h.rp, .bool h.au, .bool h.ct, .bool h.wa, .bool h.ca, .int .i64 h.code, .string h.qn, .int .i64 h.qt, .slice A1' n1 c1', .slice A2' n2 c2', .slice A3' n3 c3']] w fun e w' => e = .returned (.bool true) ∧ Below w.heap.size w w' := by
  have L0 := Lib.hid (((Below.refl w.heap.size w).alloc (Nat.le_refl _) (.cells #[.int .i64 h.id, .bool h.rp, .bool h.au, .bool h.ct, .bool h.wa, .bool h.ca, .int .i64 h.code, .string h.qn, .int .i64 h.qt, .slice A1 n1 c1, .slice A2 n2 c2, .slice A3 n3 c3] 45)).alloc (by simp) (.cells #[.int .i64 h.id, .bool h.rp, .bool h.au, .bool h.ct, .bool h.wa, .bool h.ca, .int .i64 h.code, .string h.qn, .int .i64 h.qt, .slice A1' n1 c1', .slice A2' n2 c2', .slice A3' n3 c3'] 45))
  have X0 := Lib.hid ((mx_new w 45 h (.slice A1 n1 c1) (.slice A2 n2 c2) (.slice A3 n3 c3)).alloc (.cells #[.int .i64 h.id, .bool h.rp, .bool h.au, .bool h.ct, .bool h.wa, .bool h.ca, .int .i64 h.code, .string h.qn, .int .i64 h.qt, .slice A1' n1 c1', .slice A2' n2 c2', .slice A3' n3 c3'] 45))
  have Y0 := Lib.hid (mx_of (h := h) (x := .slice A1' n1 c1') (y := .slice A2' n2 c2') (z := .slice A3' n3 c3') (at2 (w := w) (a := .cells #[.int .i64 h.id, .bool h.rp, .bool h.au, .bool h.ct, .bool h.wa, .bool h.ca, .int .i64 h.code, .string h.qn, .int .i64 h.qt, .slice A1 n1 c1, .slice A2 n2 c2, .slice A3 n3 c3] 45) (cs := #[.int .i64 h.id, .bool h.rp, .bool h.au, .bool h.ct, .bool h.wa, .bool h.ca, .int .i64 h.code, .string h.qn, .int .i64 h.qt, .slice A1' n1 c1', .slice A2' n2 c2', .slice A3' n3 c3']) (t := 45)))
  have S0 := Lib.hid (s1.on L0.out)
  have T0 := Lib.hid (s2.on L0.out)
  have U0 := Lib.hid (s3.on L0.out)
  have I0 := Lib.hid (t1.on L0.out)
  have J0 := Lib.hid (t2.on L0.out)
  have K0 := Lib.hid (t3.on L0.out)
  clear s1 s2 s3 t1 t2 t3
  go_enter Tryz.func44, Tryz.ntmps44
  go_wp2_with fail
  refine (eqQuest_same h.qn h.qt _).mono ?_
  rintro e w1 ⟨rfl, hl⟩
  have L1 := Lib.hid (L0.out.trans (hl.mono L0.out.size))
  have X1 := Lib.hid (X0.out.below hl)
  have Y1 := Lib.hid (Y0.out.below hl)
  have S1 := Lib.hid (S0.out.on hl)
  have T1 := Lib.hid (T0.out.on hl)
  have U1 := Lib.hid (U0.out.on hl)
  have I1 := Lib.hid (I0.out.on hl)
  have J1 := Lib.hid (J0.out.on hl)
  have K1 := Lib.hid (K0.out.on hl)
  clear hl L0 X0 Y0 S0 T0 U0 I0 J0 K0 
  obtain ⟨x0, x1, x2, x3, x4, x5, x6, x7, x8, x9, x10, x11⟩ := X1.out
  obtain ⟨y0, y1, y2, y3, y4, y5, y6, y7, y8, y9, y10, y11⟩ := Y1.out
  go_wp2_with fail
  refine (eqRecordS_same A1 A1' n1 c1 c1' l1 w1 S1.out I1.out m1).mono ?_
  rintro e w2 ⟨rfl, hl⟩
  have L2 := Lib.hid (L1.out.trans (hl.mono L1.out.size))
  have X2 := Lib.hid (X1.out.below hl)
  have Y2 := Lib.hid (Y1.out.below hl)
  have T2 := Lib.hid (T1.out.on hl)
  have U2 := Lib.hid (U1.out.on hl)
  have J2 := Lib.hid (J1.out.on hl)
  have K2 := Lib.hid (K1.out.on hl)
  clear hl L1 X1 Y1 S1 T1 U1 I1 J1 K1 x0 x1 x2 x3 x4 x5 x6 x7 x8 x9 x10 x11 y0 y1 y2 y3 y4 y5 y6 y7 y8 y9 y10 y11
  obtain ⟨x0, x1, x2, x3, x4, x5, x6, x7, x8, x9, x10, x11⟩ := X2.out
  obtain ⟨y0, y1, y2, y3, y4, y5, y6, y7, y8, y9, y10, y11⟩ := Y2.out
  go_wp2_with fail
  refine (eqRecordS_same A2 A2' n2 c2 c2' l2 w2 T2.out J2.out m2).mono ?_
  rintro e w3 ⟨rfl, hl⟩
  have L3 := Lib.hid (L2.out.trans (hl.mono L2.out.size))
  have X3 := Lib.hid (X2.out.below hl)
  have Y3 := Lib.hid (Y2.out.below hl)
  have U3 := Lib.hid (U2.out.on hl)
  have K3 := Lib.hid (K2.out.on hl)
  clear hl L2 X2 Y2 T2 U2 J2 K2 x0 x1 x2 x3 x4 x5 x6 x7 x8 x9 x10 x11 y0 y1 y2 y3 y4 y5 y6 y7 y8 y9 y10 y11
  obtain ⟨x0, x1, x2, x3, x4, x5, x6, x7, x8, x9, x10, x11⟩ := X3.out
  obtain ⟨y0, y1, y2, y3, y4, y5, y6, y7, y8, y9, y10, y11⟩ := Y3.out
  go_wp2_with fail
  refine (eqRecordS_same A3 A3' n3 c3 c3' l3 w3 U3.out K3.out m3).mono ?_
  rintro e w4 ⟨rfl, hl⟩
  have L4 := Lib.hid (L3.out.trans (hl.mono L3.out.size))
  clear hl L3 X3 Y3 U3 K3 x0 x1 x2 x3 x4 x5 x6 x7 x8 x9 x10 x11 y0 y1 y2 y3 y4 y5 y6 y7 y8 y9 y10 y11
  go_wp2
  go_ret
  exact ⟨rfl, L4.out⟩
end Go.Proofs.YtmkcjjgicinggaaGreatDoor.EqM
