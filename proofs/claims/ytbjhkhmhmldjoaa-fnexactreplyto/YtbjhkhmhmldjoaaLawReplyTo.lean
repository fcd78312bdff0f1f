/- The law FnExactReplyTo returns true at every message, code, flag and three slices of records, and turns nothing that was there: ReplyTo answers as its model. -/
import Derived.Test.YtbjhkhmhmldjoaaSzM
import Derived.Test.YtbjhkhmhmldjoaaToM
import Derived.Test.YtbjhkhmhmldjoaaEqM
import Derived.Test.YtbjhkhmhmldjoaaMarkM
import Derived.Test.YtbjhkhmhmldjoaaRepM
import Derived.Test.YtbjhkhmhmldjoaaRowM
import Derived.Deep.RegionHeld3
namespace Go.Proofs.Ytbjhkhmhmldjoaa.LawReplyTo
open Go.RowKit Go.Proofs.Ytbjhkhmhmldjoaa.Mem Go.Proofs.Ytbjhkhmhmldjoaa.MemR Go.Proofs.Ytbjhkhmhmldjoaa.BoxR Go.Proofs.Ytbjhkhmhmldjoaa.MemM Go.Proofs.Ytbjhkhmhmldjoaa.ResM Go.Proofs.Ytbjhkhmhmldjoaa.RowR Go.Proofs.Ytbjhkhmhmldjoaa.SzR Go.Proofs.Ytbjhkhmhmldjoaa.SzM Go.Proofs.Ytbjhkhmhmldjoaa.ToM Go.Proofs.Ytbjhkhmhmldjoaa.EqM Go.Proofs.Ytbjhkhmhmldjoaa.EqR Go.Proofs.Ytbjhkhmhmldjoaa.MarkR3 Go.Proofs.Ytbjhkhmhmldjoaa.MarkM Go.Proofs.Ytbjhkhmhmldjoaa.RepM

set_option maxRecDepth 100000 in
set_option maxHeartbeats 16000000 in
theorem walk (h : Hd) (A1 : Option Addr) (n1 c1 : Nat) (l1 : List Rec) (A2 : Option Addr) (n2 c2 : Nat) (l2 : List Rec) (A3 : Option Addr) (n3 c3 : Nat) (l3 : List Rec) (code : Int) (au : Bool)
    (E1 : Option Addr) (k1 d1 : Nat) (j1 : List Rec) (E2 : Option Addr) (k2 d2 : Nat) (j2 : List Rec) (E3 : Option Addr) (k3 d3 : Nat) (j3 : List Rec) (w : World) (hq : h.qn.size ≤ 9223372036854775807) (i1 : IsRecs w A1 n1 l1) (i2 : IsRecs w A2 n2 l2) (i3 : IsRecs w A3 n3 l3)
    (s1 : Sr w w.heap.size E1 k1 j1) (u1 : k1 ≤ 9223372036854775807) (v1 : ∀ r ∈ j1, Small r) (s2 : Sr w w.heap.size E2 k2 j2) (u2 : k2 ≤ 9223372036854775807) (v2 : ∀ r ∈ j2, Small r) (s3 : Sr w w.heap.size E3 k3 j3) (u3 : k3 ≤ 9223372036854775807) (v3 : ∀ r ∈ j3, Small r) :
    Calls Try.prog 5 #[.agg #[.int .i64 h.id, .bool h.rp, .bool h.au, .bool h.ct, .bool h.wa, .bool h.ca, .int .i64 h.code, .string h.qn, .int .i64 h.qt, .slice A1 n1 c1, .slice A2 n2 c2, .slice A3 n3 c3], .int .i64 code, .bool au, .slice E1 k1 d1, .slice E2 k2 d2, .slice E3 k3 d3] w fun e w' => e = .returned (.bool true) ∧ Below w.heap.size w w' := by
  have L0 := Lib.hid ((Below.refl w.heap.size w).alloc (Nat.le_refl _) (.cells #[.int .i64 h.id, .bool h.rp, .bool h.au, .bool h.ct, .bool h.wa, .bool h.ca, .int .i64 h.code, .string h.qn, .int .i64 h.qt, .slice A1 n1 c1, .slice A2 n2 c2, .slice A3 n3 c3] 26))
  have X0 := Lib.hid (mx_new w 26 h (.slice A1 n1 c1) (.slice A2 n2 c2) (.slice A3 n3 c3))
  have S1 := Lib.hid i1.1
  have m1 := i1.2.1
  have Z1 : Hid (Sms l1) := i1.2.2
  have T1 := Lib.hid s1
  have Y1 : Hid (Sms j1) := v1
  have B1 := Lib.hid i1.1.1
  have C1 := Lib.hid s1.1
  have S2 := Lib.hid i2.1
  have m2 := i2.2.1
  have Z2 : Hid (Sms l2) := i2.2.2
  have T2 := Lib.hid s2
  have Y2 : Hid (Sms j2) := v2
  have B2 := Lib.hid i2.1.1
  have C2 := Lib.hid s2.1
  have S3 := Lib.hid i3.1
  have m3 := i3.2.1
  have Z3 : Hid (Sms l3) := i3.2.2
  have T3 := Lib.hid s3
  have Y3 : Hid (Sms j3) := v3
  have B3 := Lib.hid i3.1.1
  have C3 := Lib.hid s3.1
  clear i1 i2 i3 s1 s2 s3 v1 v2 v3
  go_enter Try.func5, Try.ntmps5
  go_wp2_with fail
  refine (szMsg_any h A1 n1 c1 l1 A2 n2 c2 l2 A3 n3 c3 l3 1048576 _ (by omega) (by omega) hq (S1.out.on L0.out) m1 Z1.out (S2.out.on L0.out) m2 Z2.out (S3.out.on L0.out) m3 Z3.out).mono ?_
  rintro e w1 ⟨y, rfl, hy0, hy1, hy, hl⟩
  have Y := Lib.hid hy
  have L1 := Lib.hid (L0.out.trans (hl.mono L0.out.size))
  have X1 := Lib.hid (X0.out.below hl)
  clear hl L0 X0
  clear hy 
  by_cases negy : y < 0
  · go_wp2
    go_ret
    exact ⟨rfl, L1.out⟩
  go_wp2_with fail
  refine (szRecordS_any E1 k1 d1 j1 y _ (T1.out.on L1.out) (by omega) (by omega) u1 Y1.out).mono ?_
  rintro e w2 ⟨y1, rfl, ha1, hb1, hc1, hl⟩
  have V1 := Lib.hid hc1
  have L2 := Lib.hid (L1.out.trans (hl.mono L1.out.size))
  have X2 := Lib.hid (X1.out.below hl)
  clear hl L1 X1
  clear hc1 
  by_cases negy1 : y1 < 0
  · go_wp2
    go_ret
    exact ⟨rfl, L2.out⟩
  go_wp2_with fail
  refine (szRecordS_any E2 k2 d2 j2 y1 _ (T2.out.on L2.out) (by omega) (by omega) u2 Y2.out).mono ?_
  rintro e w3 ⟨y2, rfl, ha2, hb2, hc2, hl⟩
  have V2 := Lib.hid hc2
  have L3 := Lib.hid (L2.out.trans (hl.mono L2.out.size))
  have X3 := Lib.hid (X2.out.below hl)
  clear hl L2 X2
  clear hc2 
  by_cases negy2 : y2 < 0
  · go_wp2
    go_ret
    exact ⟨rfl, L3.out⟩
  go_wp2_with fail
  refine (szRecordS_any E3 k3 d3 j3 y2 _ (T3.out.on L3.out) (by omega) (by omega) u3 Y3.out).mono ?_
  rintro e w4 ⟨y3, rfl, ha3, hb3, hc3, hl⟩
  have V3 := Lib.hid hc3
  have L4 := Lib.hid (L3.out.trans (hl.mono L3.out.size))
  have X4 := Lib.hid (X3.out.below hl)
  clear hl L3 X3
  clear hc3 
  by_cases negy3 : y3 < 0
  · go_wp2
    go_ret
    exact ⟨rfl, L4.out⟩
  have bz : n1 + n2 + n3 + k1 + k2 + k3 ≤ 1048576 := by
    have e0 := Y.out (by omega)
    have e1 := V1.out (by omega)
    have e2 := V2.out (by omega)
    have e3 := V3.out (by omega)
    have a1 := B1.out
    have a2 := B2.out
    have a3 := B3.out
    have a4 := C1.out
    have a5 := C2.out
    have a6 := C3.out
    unfold mz at e0
    omega
  clear Y V1 V2 V3
  obtain ⟨x0_0, x0_1, x0_2, x0_3, x0_4, x0_5, x0_6, x0_7, x0_8, x0_9, x0_10, x0_11⟩ := X4.out
  go_wp2_with fail
  refine (toMsg_any h A1 n1 c1 l1 A2 n2 c2 l2 A3 n3 c3 l3 _ (S1.out.on L4.out) (by omega) (S2.out.on L4.out) (by omega) (S3.out.on L4.out) (by omega)).mono ?_
  rintro e w5 ⟨t1, f1, rt1, t2, f2, rt2, t3, f3, rt3, rfl, hb1, hb2, hb3, hg, h12, h23, hl⟩
  have T1_5 := Lib.hid hb1
  have T2_5 := Lib.hid hb2
  have T3_5 := Lib.hid hb3
  have L5 := Lib.hid (L4.out.trans (hl.mono L4.out.size))
  have X5 := Lib.hid (X4.out.below hl)
  clear hl L4 X4
  clear hb1 hb2 hb3 hg h12 h23 x0_0 x0_1 x0_2 x0_3 x0_4 x0_5 x0_6 x0_7 x0_8 x0_9 x0_10 x0_11
  go_wp2_with fail
  refine (toRecordS_g E1 k1 d1 j1 _ (T1.out.on L5.out) (by omega)).mono ?_
  rintro e w6 ⟨ta, rfl, hb, hg, hl⟩
  have TA_6 := Lib.hid hb
  have L6 := Lib.hid (L5.out.trans (hl.mono L5.out.size))
  have X6 := Lib.hid (X5.out.below hl)
  have T1_6 := Lib.hid (T1_5.out.below hl T1_5.out.lt)
  have T2_6 := Lib.hid (T2_5.out.below hl T2_5.out.lt)
  have T3_6 := Lib.hid (T3_5.out.below hl T3_5.out.lt)
  clear hl L5 X5 T1_5 T2_5 T3_5
  clear hb hg 
  go_wp2_with fail
  refine (toRecordS_g E2 k2 d2 j2 _ (T2.out.on L6.out) (by omega)).mono ?_
  rintro e w7 ⟨tb, rfl, hb, hg, hl⟩
  have TB_7 := Lib.hid hb
  have L7 := Lib.hid (L6.out.trans (hl.mono L6.out.size))
  have X7 := Lib.hid (X6.out.below hl)
  have T1_7 := Lib.hid (T1_6.out.below hl T1_6.out.lt)
  have T2_7 := Lib.hid (T2_6.out.below hl T2_6.out.lt)
  have T3_7 := Lib.hid (T3_6.out.below hl T3_6.out.lt)
  have TA_7 := Lib.hid (TA_6.out.below hl TA_6.out.lt)
  clear hl L6 X6 T1_6 T2_6 T3_6 TA_6
  clear hb hg 
  go_wp2_with fail
  refine (toRecordS_g E3 k3 d3 j3 _ (T3.out.on L7.out) (by omega)).mono ?_
  rintro e w8 ⟨tc, rfl, hb, hg, hl⟩
  have TC_8 := Lib.hid hb
  have L8 := Lib.hid (L7.out.trans (hl.mono L7.out.size))
  have X8 := Lib.hid (X7.out.below hl)
  have T1_8 := Lib.hid (T1_7.out.below hl T1_7.out.lt)
  have T2_8 := Lib.hid (T2_7.out.below hl T2_7.out.lt)
  have T3_8 := Lib.hid (T3_7.out.below hl T3_7.out.lt)
  have TA_8 := Lib.hid (TA_7.out.below hl TA_7.out.lt)
  have TB_8 := Lib.hid (TB_7.out.below hl TB_7.out.lt)
  clear hl L7 X7 T1_7 T2_7 T3_7 TA_7 TB_7
  clear hb hg 
  go_wp2_with fail
  refine (RepM.spec h _ _ _ n1 f1 n2 f2 n3 f3 code au ta 0 k1 k1 j1 tb 0 k2 k2 j2 tc 0 k3 k3 j3 _ (bk_sr0 TA_8.out C1.out) (by omega) (bk_sr0 TB_8.out C2.out) (by omega) (bk_sr0 TC_8.out C3.out) (by omega)).mono ?_
  rintro e w9 ⟨v1, f1, rv1, v2, f2, rv2, v3, f3, rv3, rfl, hb1, hb2, hb3, hg, h12, h23, hl⟩
  have V1_9 := Lib.hid hb1
  have V2_9 := Lib.hid hb2
  have V3_9 := Lib.hid hb3
  have OV : Hid (w.heap.size < v1 ∧ v1 < v2 ∧ v2 < v3) := ⟨Nat.lt_of_lt_of_le X8.out.lt hg, h12, h23⟩
  have L9 := Lib.hid (L8.out.trans (hl.mono L8.out.size))
  have X9 := Lib.hid (X8.out.below hl)
  have T1_9 := Lib.hid (T1_8.out.below hl T1_8.out.lt)
  have T2_9 := Lib.hid (T2_8.out.below hl T2_8.out.lt)
  have T3_9 := Lib.hid (T3_8.out.below hl T3_8.out.lt)
  have TA_9 := Lib.hid (TA_8.out.below hl TA_8.out.lt)
  have TB_9 := Lib.hid (TB_8.out.below hl TB_8.out.lt)
  have TC_9 := Lib.hid (TC_8.out.below hl TC_8.out.lt)
  clear hl L8 X8 T1_8 T2_8 T3_8 TA_8 TB_8 TC_8
  clear hb1 hb2 hb3 hg h12 h23 
  clear T1_9
  clear T2_9
  clear T3_9
  clear TA_9
  clear TB_9
  clear TC_9
  have OW : Hid (v3 < w9.heap.size) := V3_9.out.lt
  have al : Below w9.heap.size w9 (w9.alloc (.cells #[.int .i64 (rph h code au).id, .bool (rph h code au).rp, .bool (rph h code au).au, .bool (rph h code au).ct, .bool (rph h code au).wa, .bool (rph h code au).ca, .int .i64 (rph h code au).code, .string (rph h code au).qn, .int .i64 (rph h code au).qt, .slice (some ⟨v1, 0, none⟩) k1 f1, .slice (some ⟨v2, 0, none⟩) k2 f2, .slice (some ⟨v3, 0, none⟩) k3 f3] 32)) := (Below.refl _ _).alloc (Nat.le_refl _) _
  have W10 := Lib.hid (mx_new w9 32 (rph h code au) (.slice (some ⟨v1, 0, none⟩) k1 f1) (.slice (some ⟨v2, 0, none⟩) k2 f2) (.slice (some ⟨v3, 0, none⟩) k3 f3))
  have L10 := Lib.hid (L9.out.trans (al.mono L9.out.size))
  have X10 := Lib.hid (X9.out.below al)
  have V1_10 := Lib.hid (V1_9.out.below al V1_9.out.lt)
  have V2_10 := Lib.hid (V2_9.out.below al V2_9.out.lt)
  have V3_10 := Lib.hid (V3_9.out.below al V3_9.out.lt)
  clear al L9 X9 V1_9 V2_9 V3_9
  obtain ⟨x0_0, x0_1, x0_2, x0_3, x0_4, x0_5, x0_6, x0_7, x0_8, x0_9, x0_10, x0_11⟩ := X10.out
  go_wp2_with fail
  refine (toMsg_any h A1 n1 c1 l1 A2 n2 c2 l2 A3 n3 c3 l3 _ (S1.out.on L10.out) (by omega) (S2.out.on L10.out) (by omega) (S3.out.on L10.out) (by omega)).mono ?_
  rintro e w11 ⟨p1, e1, rp1, p2, e2, rp2, p3, e3, rp3, rfl, hb1, hb2, hb3, hg, h12, h23, hl⟩
  have P1_11 := Lib.hid hb1
  have P2_11 := Lib.hid hb2
  have P3_11 := Lib.hid hb3
  have OP : Hid (w9.heap.size < p1 ∧ p1 < p2 ∧ p2 < p3) := ⟨Nat.lt_of_lt_of_le W10.out.lt hg, h12, h23⟩
  have L11 := Lib.hid (L10.out.trans (hl.mono L10.out.size))
  have X11 := Lib.hid (X10.out.below hl)
  have V1_11 := Lib.hid (V1_10.out.below hl V1_10.out.lt)
  have V2_11 := Lib.hid (V2_10.out.below hl V2_10.out.lt)
  have V3_11 := Lib.hid (V3_10.out.below hl V3_10.out.lt)
  have W11 := Lib.hid (W10.out.below hl)
  clear hl L10 X10 V1_10 V2_10 V3_10 W10
  clear hb1 hb2 hb3 hg h12 h23 x0_0 x0_1 x0_2 x0_3 x0_4 x0_5 x0_6 x0_7 x0_8 x0_9 x0_10 x0_11
  have OQ : Hid (p3 < w11.heap.size) := P3_11.out.lt
  have al : Below w11.heap.size w11 (w11.alloc (.cells #[.int .i64 h.id, .bool h.rp, .bool h.au, .bool h.ct, .bool h.wa, .bool h.ca, .int .i64 h.code, .string h.qn, .int .i64 h.qt, .slice (some ⟨p1, 0, none⟩) n1 e1, .slice (some ⟨p2, 0, none⟩) n2 e2, .slice (some ⟨p3, 0, none⟩) n3 e3] 32)) := (Below.refl _ _).alloc (Nat.le_refl _) _
  have Q12 := Lib.hid (mx_new w11 32 (h) (.slice (some ⟨p1, 0, none⟩) n1 e1) (.slice (some ⟨p2, 0, none⟩) n2 e2) (.slice (some ⟨p3, 0, none⟩) n3 e3))
  have L12 := Lib.hid (L11.out.trans (al.mono L11.out.size))
  have X12 := Lib.hid (X11.out.below al)
  have V1_12 := Lib.hid (V1_11.out.below al V1_11.out.lt)
  have V2_12 := Lib.hid (V2_11.out.below al V2_11.out.lt)
  have V3_12 := Lib.hid (V3_11.out.below al V3_11.out.lt)
  have W12 := Lib.hid (W11.out.below al)
  have P1_12 := Lib.hid (P1_11.out.below al P1_11.out.lt)
  have P2_12 := Lib.hid (P2_11.out.below al P2_11.out.lt)
  have P3_12 := Lib.hid (P3_11.out.below al P3_11.out.lt)
  clear al L11 X11 V1_11 V2_11 V3_11 W11 P1_11 P2_11 P3_11
  go_wp2_with fail
  refine (toRecordS_g E1 k1 d1 j1 _ (T1.out.on L12.out) (by omega)).mono ?_
  rintro e w13 ⟨xa, rfl, hb, hg, hl⟩
  have XA_13 := Lib.hid hb
  have OA : Hid (w11.heap.size < xa) := Nat.lt_of_lt_of_le Q12.out.lt hg
  have L13 := Lib.hid (L12.out.trans (hl.mono L12.out.size))
  have X13 := Lib.hid (X12.out.below hl)
  have V1_13 := Lib.hid (V1_12.out.below hl V1_12.out.lt)
  have V2_13 := Lib.hid (V2_12.out.below hl V2_12.out.lt)
  have V3_13 := Lib.hid (V3_12.out.below hl V3_12.out.lt)
  have W13 := Lib.hid (W12.out.below hl)
  have P1_13 := Lib.hid (P1_12.out.below hl P1_12.out.lt)
  have P2_13 := Lib.hid (P2_12.out.below hl P2_12.out.lt)
  have P3_13 := Lib.hid (P3_12.out.below hl P3_12.out.lt)
  have Q13 := Lib.hid (Q12.out.below hl)
  clear hl L12 X12 V1_12 V2_12 V3_12 W12 P1_12 P2_12 P3_12 Q12
  clear hb hg 
  generalize w9.heap.size = gw at *
  generalize w11.heap.size = gq at *
  go_wp2_with fail
  refine (toRecordS_g E2 k2 d2 j2 _ (T2.out.on L13.out) (by omega)).mono ?_
  rintro e w14 ⟨xb, rfl, hb, hg, hl⟩
  have XB_14 := Lib.hid hb
  have OB : Hid (xa < xb) := Nat.lt_of_lt_of_le XA_13.out.lt hg
  have L14 := Lib.hid (L13.out.trans (hl.mono L13.out.size))
  have X14 := Lib.hid (X13.out.below hl)
  have V1_14 := Lib.hid (V1_13.out.below hl V1_13.out.lt)
  have V2_14 := Lib.hid (V2_13.out.below hl V2_13.out.lt)
  have V3_14 := Lib.hid (V3_13.out.below hl V3_13.out.lt)
  have W14 := Lib.hid (W13.out.below hl)
  have P1_14 := Lib.hid (P1_13.out.below hl P1_13.out.lt)
  have P2_14 := Lib.hid (P2_13.out.below hl P2_13.out.lt)
  have P3_14 := Lib.hid (P3_13.out.below hl P3_13.out.lt)
  have Q14 := Lib.hid (Q13.out.below hl)
  have XA_14 := Lib.hid (XA_13.out.below hl XA_13.out.lt)
  clear hl L13 X13 V1_13 V2_13 V3_13 W13 P1_13 P2_13 P3_13 Q13 XA_13
  clear hb hg 
  go_wp2_with fail
  refine (toRecordS_g E3 k3 d3 j3 _ (T3.out.on L14.out) (by omega)).mono ?_
  rintro e w15 ⟨xc, rfl, hb, hg, hl⟩
  have XC_15 := Lib.hid hb
  have OC : Hid (xb < xc) := Nat.lt_of_lt_of_le XB_14.out.lt hg
  have L15 := Lib.hid (L14.out.trans (hl.mono L14.out.size))
  have X15 := Lib.hid (X14.out.below hl)
  have V1_15 := Lib.hid (V1_14.out.below hl V1_14.out.lt)
  have V2_15 := Lib.hid (V2_14.out.below hl V2_14.out.lt)
  have V3_15 := Lib.hid (V3_14.out.below hl V3_14.out.lt)
  have W15 := Lib.hid (W14.out.below hl)
  have P1_15 := Lib.hid (P1_14.out.below hl P1_14.out.lt)
  have P2_15 := Lib.hid (P2_14.out.below hl P2_14.out.lt)
  have P3_15 := Lib.hid (P3_14.out.below hl P3_14.out.lt)
  have Q15 := Lib.hid (Q14.out.below hl)
  have XA_15 := Lib.hid (XA_14.out.below hl XA_14.out.lt)
  have XB_15 := Lib.hid (XB_14.out.below hl XB_14.out.lt)
  clear hl L14 X14 V1_14 V2_14 V3_14 W14 P1_14 P2_14 P3_14 Q14 XA_14 XB_14
  clear hb hg 
  obtain ⟨x0_0, x0_1, x0_2, x0_3, x0_4, x0_5, x0_6, x0_7, x0_8, x0_9, x0_10, x0_11⟩ := Q15.out
  go_wp2_with fail
  refine (RepM.impl h _ _ _ n1 e1 n2 e2 n3 e3 code au xa 0 k1 k1 j1 xb 0 k2 k2 j2 xc 0 k3 k3 j3 _ (bk_sr0 XA_15.out C1.out) (by omega) (bk_sr0 XB_15.out C2.out) (by omega) (bk_sr0 XC_15.out C3.out) (by omega)).mono ?_
  rintro e w16 ⟨g1, z1, rg1, g2, z2, rg2, g3, z3, rg3, rfl, hb1, hb2, hb3, hg, h12, h23, hl⟩
  have G1_16 := Lib.hid hb1
  have G2_16 := Lib.hid hb2
  have G3_16 := Lib.hid hb3
  have OG : Hid (xc < g1 ∧ g1 < g2 ∧ g2 < g3) := ⟨Nat.lt_of_lt_of_le XC_15.out.lt hg, h12, h23⟩
  have L16 := Lib.hid (L15.out.trans (hl.mono L15.out.size))
  have X16 := Lib.hid (X15.out.below hl)
  have V1_16 := Lib.hid (V1_15.out.below hl V1_15.out.lt)
  have V2_16 := Lib.hid (V2_15.out.below hl V2_15.out.lt)
  have V3_16 := Lib.hid (V3_15.out.below hl V3_15.out.lt)
  have W16 := Lib.hid (W15.out.below hl)
  have P1_16 := Lib.hid (P1_15.out.below hl P1_15.out.lt)
  have P2_16 := Lib.hid (P2_15.out.below hl P2_15.out.lt)
  have P3_16 := Lib.hid (P3_15.out.below hl P3_15.out.lt)
  have Q16 := Lib.hid (Q15.out.below hl)
  have XA_16 := Lib.hid (XA_15.out.below hl XA_15.out.lt)
  have XB_16 := Lib.hid (XB_15.out.below hl XB_15.out.lt)
  have XC_16 := Lib.hid (XC_15.out.below hl XC_15.out.lt)
  clear hl L15 X15 V1_15 V2_15 V3_15 W15 P1_15 P2_15 P3_15 Q15 XA_15 XB_15 XC_15
  clear hb1 hb2 hb3 hg h12 h23 x0_0 x0_1 x0_2 x0_3 x0_4 x0_5 x0_6 x0_7 x0_8 x0_9 x0_10 x0_11
  have OG_ : Hid (g3 < w16.heap.size) := G3_16.out.lt
  have al : Below w16.heap.size w16 (w16.alloc (.cells #[.int .i64 (rph h code au).id, .bool (rph h code au).rp, .bool (rph h code au).au, .bool (rph h code au).ct, .bool (rph h code au).wa, .bool (rph h code au).ca, .int .i64 (rph h code au).code, .string (rph h code au).qn, .int .i64 (rph h code au).qt, .slice (some ⟨g1, 0, none⟩) k1 z1, .slice (some ⟨g2, 0, none⟩) k2 z2, .slice (some ⟨g3, 0, none⟩) k3 z3] 32)) := (Below.refl _ _).alloc (Nat.le_refl _) _
  have G17 := Lib.hid (mx_new w16 32 (rph h code au) (.slice (some ⟨g1, 0, none⟩) k1 z1) (.slice (some ⟨g2, 0, none⟩) k2 z2) (.slice (some ⟨g3, 0, none⟩) k3 z3))
  have L17 := Lib.hid (L16.out.trans (al.mono L16.out.size))
  have X17 := Lib.hid (X16.out.below al)
  have V1_17 := Lib.hid (V1_16.out.below al V1_16.out.lt)
  have V2_17 := Lib.hid (V2_16.out.below al V2_16.out.lt)
  have V3_17 := Lib.hid (V3_16.out.below al V3_16.out.lt)
  have W17 := Lib.hid (W16.out.below al)
  have P1_17 := Lib.hid (P1_16.out.below al P1_16.out.lt)
  have P2_17 := Lib.hid (P2_16.out.below al P2_16.out.lt)
  have P3_17 := Lib.hid (P3_16.out.below al P3_16.out.lt)
  have Q17 := Lib.hid (Q16.out.below al)
  have XA_17 := Lib.hid (XA_16.out.below al XA_16.out.lt)
  have XB_17 := Lib.hid (XB_16.out.below al XB_16.out.lt)
  have XC_17 := Lib.hid (XC_16.out.below al XC_16.out.lt)
  have G1_17 := Lib.hid (G1_16.out.below al G1_16.out.lt)
  have G2_17 := Lib.hid (G2_16.out.below al G2_16.out.lt)
  have G3_17 := Lib.hid (G3_16.out.below al G3_16.out.lt)
  clear al L16 X16 V1_16 V2_16 V3_16 W16 P1_16 P2_16 P3_16 Q16 XA_16 XB_16 XC_16 G1_16 G2_16 G3_16
  obtain ⟨x0_0, x0_1, x0_2, x0_3, x0_4, x0_5, x0_6, x0_7, x0_8, x0_9, x0_10, x0_11⟩ := G17.out
  obtain ⟨x1_0, x1_1, x1_2, x1_3, x1_4, x1_5, x1_6, x1_7, x1_8, x1_9, x1_10, x1_11⟩ := W17.out
  go_wp2_with fail
  refine (eqMsg_same (rph h code au) _ _ k1 z1 f1 j1 _ _ k2 z2 f2 j2 _ _ k3 z3 f3 j3 _ (bk_sr G1_17.out C1.out) (bk_sr V1_17.out C1.out) (by omega) (bk_sr G2_17.out C2.out) (bk_sr V2_17.out C2.out) (by omega) (bk_sr G3_17.out C3.out) (bk_sr V3_17.out C3.out) (by omega)).mono ?_
  rintro e w18 ⟨rfl, hl⟩
  have L18 := Lib.hid (L17.out.trans (hl.mono L17.out.size))
  have X18 := Lib.hid (X17.out.below hl)
  have V1_18 := Lib.hid (V1_17.out.below hl V1_17.out.lt)
  have V2_18 := Lib.hid (V2_17.out.below hl V2_17.out.lt)
  have V3_18 := Lib.hid (V3_17.out.below hl V3_17.out.lt)
  have W18 := Lib.hid (W17.out.below hl)
  have P1_18 := Lib.hid (P1_17.out.below hl P1_17.out.lt)
  have P2_18 := Lib.hid (P2_17.out.below hl P2_17.out.lt)
  have P3_18 := Lib.hid (P3_17.out.below hl P3_17.out.lt)
  have Q18 := Lib.hid (Q17.out.below hl)
  have XA_18 := Lib.hid (XA_17.out.below hl XA_17.out.lt)
  have XB_18 := Lib.hid (XB_17.out.below hl XB_17.out.lt)
  have XC_18 := Lib.hid (XC_17.out.below hl XC_17.out.lt)
  have G1_18 := Lib.hid (G1_17.out.below hl G1_17.out.lt)
  have G2_18 := Lib.hid (G2_17.out.below hl G2_17.out.lt)
  have G3_18 := Lib.hid (G3_17.out.below hl G3_17.out.lt)
  have G18 := Lib.hid (G17.out.below hl)
  clear hl L17 X17 V1_17 V2_17 V3_17 W17 P1_17 P2_17 P3_17 Q17 XA_17 XB_17 XC_17 G1_17 G2_17 G3_17 G17
  clear  x0_0 x0_1 x0_2 x0_3 x0_4 x0_5 x0_6 x0_7 x0_8 x0_9 x0_10 x0_11 x1_0 x1_1 x1_2 x1_3 x1_4 x1_5 x1_6 x1_7 x1_8 x1_9 x1_10 x1_11
  generalize w16.heap.size = gg at *
  have ORD : Hid (w.heap.size < v1 ∧ v1 < v2 ∧ v2 < v3 ∧ v3 < gw ∧ gw < p1 ∧ p1 < p2 ∧ p2 < p3 ∧ p3 < gq ∧ gq < xa ∧ xa < xb ∧ xb < xc ∧ xc < g1 ∧ g1 < g2 ∧ g2 < g3 ∧ g3 < gg) := ⟨OV.out.1, OV.out.2.1, OV.out.2.2, OW.out, OP.out.1, OP.out.2.1, OP.out.2.2, OQ.out, OA.out, OB.out, OC.out, OG.out.1, OG.out.2.1, OG.out.2.2, OG_.out⟩
  clear OV OW OP OQ OA OB OC OG OG_
  have TM : Hid (∀ W : World, (((W.cell? ⟨w.heap.size, 0, none⟩ = some (.int .i64 h.id) ∧ W.cell? ⟨w.heap.size, 1, none⟩ = some (.bool h.rp) ∧ W.cell? ⟨w.heap.size, 2, none⟩ = some (.bool h.au) ∧ W.cell? ⟨w.heap.size, 3, none⟩ = some (.bool h.ct) ∧ W.cell? ⟨w.heap.size, 4, none⟩ = some (.bool h.wa) ∧ W.cell? ⟨w.heap.size, 5, none⟩ = some (.bool h.ca) ∧ W.cell? ⟨w.heap.size, 6, none⟩ = some (.int .i64 h.code) ∧ W.cell? ⟨w.heap.size, 7, none⟩ = some (.string h.qn) ∧ W.cell? ⟨w.heap.size, 8, none⟩ = some (.int .i64 h.qt) ∧ W.cell? ⟨w.heap.size, 9, none⟩ = some (.slice A1 n1 c1) ∧ W.cell? ⟨w.heap.size, 10, none⟩ = some (.slice A2 n2 c2) ∧ W.cell? ⟨w.heap.size, 11, none⟩ = some (.slice A3 n3 c3)) ∧ (W.cell? ⟨gq, 0, none⟩ = some (.int .i64 h.id) ∧ W.cell? ⟨gq, 1, none⟩ = some (.bool h.rp) ∧ W.cell? ⟨gq, 2, none⟩ = some (.bool h.au) ∧ W.cell? ⟨gq, 3, none⟩ = some (.bool h.ct) ∧ W.cell? ⟨gq, 4, none⟩ = some (.bool h.wa) ∧ W.cell? ⟨gq, 5, none⟩ = some (.bool h.ca) ∧ W.cell? ⟨gq, 6, none⟩ = some (.int .i64 h.code) ∧ W.cell? ⟨gq, 7, none⟩ = some (.string h.qn) ∧ W.cell? ⟨gq, 8, none⟩ = some (.int .i64 h.qt) ∧ W.cell? ⟨gq, 9, none⟩ = some (.slice (some ⟨p1, 0, none⟩) n1 e1) ∧ W.cell? ⟨gq, 10, none⟩ = some (.slice (some ⟨p2, 0, none⟩) n2 e2) ∧ W.cell? ⟨gq, 11, none⟩ = some (.slice (some ⟨p3, 0, none⟩) n3 e3))) ∧ Sv w18 W) → Calls Try.prog 9 #[.agg #[.int .i64 h.id, .bool h.rp, .bool h.au, .bool h.ct, .bool h.wa, .bool h.ca, .int .i64 h.code, .string h.qn, .int .i64 h.qt, .slice A1 n1 c1, .slice A2 n2 c2, .slice A3 n3 c3]] W (GivesM W h n1 n2 n3 l1 l2 l3)) := fun W hW => toMsg_any h A1 n1 c1 l1 A2 n2 c2 l2 A3 n3 c3 l3 W ((S1.out.on L18.out).on hW.2) (by omega) ((S2.out.on L18.out).on hW.2) (by omega) ((S3.out.on L18.out).on hW.2) (by omega)
  have EQ : Hid (∀ (W : World) (t1 f1 : Nat) (q1 : List Value) (t2 f2 : Nat) (q2 : List Value) (t3 f3 : Nat) (q3 : List Value), (((W.cell? ⟨w.heap.size, 0, none⟩ = some (.int .i64 h.id) ∧ W.cell? ⟨w.heap.size, 1, none⟩ = some (.bool h.rp) ∧ W.cell? ⟨w.heap.size, 2, none⟩ = some (.bool h.au) ∧ W.cell? ⟨w.heap.size, 3, none⟩ = some (.bool h.ct) ∧ W.cell? ⟨w.heap.size, 4, none⟩ = some (.bool h.wa) ∧ W.cell? ⟨w.heap.size, 5, none⟩ = some (.bool h.ca) ∧ W.cell? ⟨w.heap.size, 6, none⟩ = some (.int .i64 h.code) ∧ W.cell? ⟨w.heap.size, 7, none⟩ = some (.string h.qn) ∧ W.cell? ⟨w.heap.size, 8, none⟩ = some (.int .i64 h.qt) ∧ W.cell? ⟨w.heap.size, 9, none⟩ = some (.slice A1 n1 c1) ∧ W.cell? ⟨w.heap.size, 10, none⟩ = some (.slice A2 n2 c2) ∧ W.cell? ⟨w.heap.size, 11, none⟩ = some (.slice A3 n3 c3)) ∧ (W.cell? ⟨gq, 0, none⟩ = some (.int .i64 h.id) ∧ W.cell? ⟨gq, 1, none⟩ = some (.bool h.rp) ∧ W.cell? ⟨gq, 2, none⟩ = some (.bool h.au) ∧ W.cell? ⟨gq, 3, none⟩ = some (.bool h.ct) ∧ W.cell? ⟨gq, 4, none⟩ = some (.bool h.wa) ∧ W.cell? ⟨gq, 5, none⟩ = some (.bool h.ca) ∧ W.cell? ⟨gq, 6, none⟩ = some (.int .i64 h.code) ∧ W.cell? ⟨gq, 7, none⟩ = some (.string h.qn) ∧ W.cell? ⟨gq, 8, none⟩ = some (.int .i64 h.qt) ∧ W.cell? ⟨gq, 9, none⟩ = some (.slice (some ⟨p1, 0, none⟩) n1 e1) ∧ W.cell? ⟨gq, 10, none⟩ = some (.slice (some ⟨p2, 0, none⟩) n2 e2) ∧ W.cell? ⟨gq, 11, none⟩ = some (.slice (some ⟨p3, 0, none⟩) n3 e3))) ∧ Sv w18 W) → Bk W t1 59 (fl l1 ++ q1) → Bk W t2 59 (fl l2 ++ q2) → Bk W t3 59 (fl l3 ++ q3) → Calls Try.prog 11 #[.agg #[.int .i64 h.id, .bool h.rp, .bool h.au, .bool h.ct, .bool h.wa, .bool h.ca, .int .i64 h.code, .string h.qn, .int .i64 h.qt, .slice (some ⟨p1, 0, none⟩) n1 e1, .slice (some ⟨p2, 0, none⟩) n2 e2, .slice (some ⟨p3, 0, none⟩) n3 e3], .agg #[.int .i64 h.id, .bool h.rp, .bool h.au, .bool h.ct, .bool h.wa, .bool h.ca, .int .i64 h.code, .string h.qn, .int .i64 h.qt, .slice (some ⟨t1, 0, none⟩) n1 f1, .slice (some ⟨t2, 0, none⟩) n2 f2, .slice (some ⟨t3, 0, none⟩) n3 f3]] W fun e w' => e = .returned (.bool true) ∧ Below W.heap.size W w') := fun W t1 f1 q1 t2 f2 q2 t3 f3 q3 hW b1 b2 b3 => eqMsg_same h _ _ n1 e1 f1 l1 _ _ n2 e2 f2 l2 _ _ n3 e3 f3 l3 W (bk_sr (P1_18.out.below hW.2 P1_18.out.lt) B1.out) (bk_sr b1 B1.out) (by omega) (bk_sr (P2_18.out.below hW.2 P2_18.out.lt) B2.out) (bk_sr b2 B2.out) (by omega) (bk_sr (P3_18.out.below hW.2 P3_18.out.lt) B3.out) (bk_sr b3 B3.out) (by omega)
  have S0 : (((w18.cell? ⟨w.heap.size, 0, none⟩ = some (.int .i64 h.id) ∧ w18.cell? ⟨w.heap.size, 1, none⟩ = some (.bool h.rp) ∧ w18.cell? ⟨w.heap.size, 2, none⟩ = some (.bool h.au) ∧ w18.cell? ⟨w.heap.size, 3, none⟩ = some (.bool h.ct) ∧ w18.cell? ⟨w.heap.size, 4, none⟩ = some (.bool h.wa) ∧ w18.cell? ⟨w.heap.size, 5, none⟩ = some (.bool h.ca) ∧ w18.cell? ⟨w.heap.size, 6, none⟩ = some (.int .i64 h.code) ∧ w18.cell? ⟨w.heap.size, 7, none⟩ = some (.string h.qn) ∧ w18.cell? ⟨w.heap.size, 8, none⟩ = some (.int .i64 h.qt) ∧ w18.cell? ⟨w.heap.size, 9, none⟩ = some (.slice A1 n1 c1) ∧ w18.cell? ⟨w.heap.size, 10, none⟩ = some (.slice A2 n2 c2) ∧ w18.cell? ⟨w.heap.size, 11, none⟩ = some (.slice A3 n3 c3)) ∧ (w18.cell? ⟨gq, 0, none⟩ = some (.int .i64 h.id) ∧ w18.cell? ⟨gq, 1, none⟩ = some (.bool h.rp) ∧ w18.cell? ⟨gq, 2, none⟩ = some (.bool h.au) ∧ w18.cell? ⟨gq, 3, none⟩ = some (.bool h.ct) ∧ w18.cell? ⟨gq, 4, none⟩ = some (.bool h.wa) ∧ w18.cell? ⟨gq, 5, none⟩ = some (.bool h.ca) ∧ w18.cell? ⟨gq, 6, none⟩ = some (.int .i64 h.code) ∧ w18.cell? ⟨gq, 7, none⟩ = some (.string h.qn) ∧ w18.cell? ⟨gq, 8, none⟩ = some (.int .i64 h.qt) ∧ w18.cell? ⟨gq, 9, none⟩ = some (.slice (some ⟨p1, 0, none⟩) n1 e1) ∧ w18.cell? ⟨gq, 10, none⟩ = some (.slice (some ⟨p2, 0, none⟩) n2 e2) ∧ w18.cell? ⟨gq, 11, none⟩ = some (.slice (some ⟨p3, 0, none⟩) n3 e3))) ∧ Sv w18 w18) := ⟨⟨X18.out, Q18.out⟩, Below.refl _ _⟩
  go_wp2
  go_region_held3 (fun w' => (((w'.cell? ⟨w.heap.size, 0, none⟩ = some (.int .i64 h.id) ∧ w'.cell? ⟨w.heap.size, 1, none⟩ = some (.bool h.rp) ∧ w'.cell? ⟨w.heap.size, 2, none⟩ = some (.bool h.au) ∧ w'.cell? ⟨w.heap.size, 3, none⟩ = some (.bool h.ct) ∧ w'.cell? ⟨w.heap.size, 4, none⟩ = some (.bool h.wa) ∧ w'.cell? ⟨w.heap.size, 5, none⟩ = some (.bool h.ca) ∧ w'.cell? ⟨w.heap.size, 6, none⟩ = some (.int .i64 h.code) ∧ w'.cell? ⟨w.heap.size, 7, none⟩ = some (.string h.qn) ∧ w'.cell? ⟨w.heap.size, 8, none⟩ = some (.int .i64 h.qt) ∧ w'.cell? ⟨w.heap.size, 9, none⟩ = some (.slice A1 n1 c1) ∧ w'.cell? ⟨w.heap.size, 10, none⟩ = some (.slice A2 n2 c2) ∧ w'.cell? ⟨w.heap.size, 11, none⟩ = some (.slice A3 n3 c3)) ∧ (w'.cell? ⟨gq, 0, none⟩ = some (.int .i64 h.id) ∧ w'.cell? ⟨gq, 1, none⟩ = some (.bool h.rp) ∧ w'.cell? ⟨gq, 2, none⟩ = some (.bool h.au) ∧ w'.cell? ⟨gq, 3, none⟩ = some (.bool h.ct) ∧ w'.cell? ⟨gq, 4, none⟩ = some (.bool h.wa) ∧ w'.cell? ⟨gq, 5, none⟩ = some (.bool h.ca) ∧ w'.cell? ⟨gq, 6, none⟩ = some (.int .i64 h.code) ∧ w'.cell? ⟨gq, 7, none⟩ = some (.string h.qn) ∧ w'.cell? ⟨gq, 8, none⟩ = some (.int .i64 h.qt) ∧ w'.cell? ⟨gq, 9, none⟩ = some (.slice (some ⟨p1, 0, none⟩) n1 e1) ∧ w'.cell? ⟨gq, 10, none⟩ = some (.slice (some ⟨p2, 0, none⟩) n2 e2) ∧ w'.cell? ⟨gq, 11, none⟩ = some (.slice (some ⟨p3, 0, none⟩) n3 e3))) ∧ Sv w18 w'))
    (first | with_reducible exact S0 | with_reducible assumption | exact kept2 (by assumption) hl | exact kept2_draw (by assumption) | fail)
    (first
      | (go_at_call 9; (with_reducible refine (TM.out _ (by assumption)).mono ?_); rintro e wt18 ⟨tt1, ff1, qq1, tt2, ff2, qq2, tt3, ff3, qq3, rfl, hb1, hb2, hb3, -, -, -, hl⟩)
      | (go_at_call 11; (with_reducible refine (EQ.out _ _ _ _ _ _ _ _ _ _ (by assumption) hb1 hb2 hb3).mono ?_); rintro e w19 ⟨rfl, hl⟩)
      | fail)
  rename_i hH
  have hz : Below w18.heap.size w18 w19 := hH.2
  clear hH hb1 hb2 hb3 hl S0 TM EQ
  have L19 := Lib.hid (L18.out.trans (hz.mono L18.out.size))
  have X19 := Lib.hid (X18.out.below hz)
  have V1_19 := Lib.hid (V1_18.out.below hz V1_18.out.lt)
  have V2_19 := Lib.hid (V2_18.out.below hz V2_18.out.lt)
  have V3_19 := Lib.hid (V3_18.out.below hz V3_18.out.lt)
  have W19 := Lib.hid (W18.out.below hz)
  have P1_19 := Lib.hid (P1_18.out.below hz P1_18.out.lt)
  have P2_19 := Lib.hid (P2_18.out.below hz P2_18.out.lt)
  have P3_19 := Lib.hid (P3_18.out.below hz P3_18.out.lt)
  have Q19 := Lib.hid (Q18.out.below hz)
  have XA_19 := Lib.hid (XA_18.out.below hz XA_18.out.lt)
  have XB_19 := Lib.hid (XB_18.out.below hz XB_18.out.lt)
  have XC_19 := Lib.hid (XC_18.out.below hz XC_18.out.lt)
  have G1_19 := Lib.hid (G1_18.out.below hz G1_18.out.lt)
  have G2_19 := Lib.hid (G2_18.out.below hz G2_18.out.lt)
  have G3_19 := Lib.hid (G3_18.out.below hz G3_18.out.lt)
  have G19 := Lib.hid (G18.out.below hz)
  clear hz L18 X18 V1_18 V2_18 V3_18 W18 P1_18 P2_18 P3_18 Q18 XA_18 XB_18 XC_18 G1_18 G2_18 G3_18 G18
  go_wp2_with fail
  refine (toRecordS_g E1 k1 d1 j1 _ (T1.out.on L19.out) (by omega)).mono ?_
  rintro e w20 ⟨yxa, rfl, hb, hg, hl⟩
  have YXA_20 := Lib.hid hb
  have L20 := Lib.hid (L19.out.trans (hl.mono L19.out.size))
  have X20 := Lib.hid (X19.out.below hl)
  have V1_20 := Lib.hid (V1_19.out.below hl V1_19.out.lt)
  have V2_20 := Lib.hid (V2_19.out.below hl V2_19.out.lt)
  have V3_20 := Lib.hid (V3_19.out.below hl V3_19.out.lt)
  have W20 := Lib.hid (W19.out.below hl)
  have P1_20 := Lib.hid (P1_19.out.below hl P1_19.out.lt)
  have P2_20 := Lib.hid (P2_19.out.below hl P2_19.out.lt)
  have P3_20 := Lib.hid (P3_19.out.below hl P3_19.out.lt)
  have Q20 := Lib.hid (Q19.out.below hl)
  have XA_20 := Lib.hid (XA_19.out.below hl XA_19.out.lt)
  have XB_20 := Lib.hid (XB_19.out.below hl XB_19.out.lt)
  have XC_20 := Lib.hid (XC_19.out.below hl XC_19.out.lt)
  have G1_20 := Lib.hid (G1_19.out.below hl G1_19.out.lt)
  have G2_20 := Lib.hid (G2_19.out.below hl G2_19.out.lt)
  have G3_20 := Lib.hid (G3_19.out.below hl G3_19.out.lt)
  have G20 := Lib.hid (G19.out.below hl)
  clear hl L19 X19 V1_19 V2_19 V3_19 W19 P1_19 P2_19 P3_19 Q19 XA_19 XB_19 XC_19 G1_19 G2_19 G3_19 G19
  clear hb hg 
  go_wp2_with fail
  refine (eqRecordS_same _ _ k1 k1 k1 j1 _ (bk_sr0 XA_20.out C1.out) (bk_sr0 YXA_20.out C1.out) (by omega)).mono ?_
  rintro e w21 ⟨rfl, hl⟩
  have L21 := Lib.hid (L20.out.trans (hl.mono L20.out.size))
  have X21 := Lib.hid (X20.out.below hl)
  have V1_21 := Lib.hid (V1_20.out.below hl V1_20.out.lt)
  have V2_21 := Lib.hid (V2_20.out.below hl V2_20.out.lt)
  have V3_21 := Lib.hid (V3_20.out.below hl V3_20.out.lt)
  have W21 := Lib.hid (W20.out.below hl)
  have P1_21 := Lib.hid (P1_20.out.below hl P1_20.out.lt)
  have P2_21 := Lib.hid (P2_20.out.below hl P2_20.out.lt)
  have P3_21 := Lib.hid (P3_20.out.below hl P3_20.out.lt)
  have Q21 := Lib.hid (Q20.out.below hl)
  have XA_21 := Lib.hid (XA_20.out.below hl XA_20.out.lt)
  have XB_21 := Lib.hid (XB_20.out.below hl XB_20.out.lt)
  have XC_21 := Lib.hid (XC_20.out.below hl XC_20.out.lt)
  have G1_21 := Lib.hid (G1_20.out.below hl G1_20.out.lt)
  have G2_21 := Lib.hid (G2_20.out.below hl G2_20.out.lt)
  have G3_21 := Lib.hid (G3_20.out.below hl G3_20.out.lt)
  have G21 := Lib.hid (G20.out.below hl)
  clear hl L20 X20 V1_20 V2_20 V3_20 W20 P1_20 P2_20 P3_20 Q20 XA_20 XB_20 XC_20 G1_20 G2_20 G3_20 G20 YXA_20
  go_wp2_with fail
  refine (toRecordS_g E2 k2 d2 j2 _ (T2.out.on L21.out) (by omega)).mono ?_
  rintro e w22 ⟨yxb, rfl, hb, hg, hl⟩
  have YXB_22 := Lib.hid hb
  have L22 := Lib.hid (L21.out.trans (hl.mono L21.out.size))
  have X22 := Lib.hid (X21.out.below hl)
  have V1_22 := Lib.hid (V1_21.out.below hl V1_21.out.lt)
  have V2_22 := Lib.hid (V2_21.out.below hl V2_21.out.lt)
  have V3_22 := Lib.hid (V3_21.out.below hl V3_21.out.lt)
  have W22 := Lib.hid (W21.out.below hl)
  have P1_22 := Lib.hid (P1_21.out.below hl P1_21.out.lt)
  have P2_22 := Lib.hid (P2_21.out.below hl P2_21.out.lt)
  have P3_22 := Lib.hid (P3_21.out.below hl P3_21.out.lt)
  have Q22 := Lib.hid (Q21.out.below hl)
  have XA_22 := Lib.hid (XA_21.out.below hl XA_21.out.lt)
  have XB_22 := Lib.hid (XB_21.out.below hl XB_21.out.lt)
  have XC_22 := Lib.hid (XC_21.out.below hl XC_21.out.lt)
  have G1_22 := Lib.hid (G1_21.out.below hl G1_21.out.lt)
  have G2_22 := Lib.hid (G2_21.out.below hl G2_21.out.lt)
  have G3_22 := Lib.hid (G3_21.out.below hl G3_21.out.lt)
  have G22 := Lib.hid (G21.out.below hl)
  clear hl L21 X21 V1_21 V2_21 V3_21 W21 P1_21 P2_21 P3_21 Q21 XA_21 XB_21 XC_21 G1_21 G2_21 G3_21 G21
  clear hb hg 
  go_wp2_with fail
  refine (eqRecordS_same _ _ k2 k2 k2 j2 _ (bk_sr0 XB_22.out C2.out) (bk_sr0 YXB_22.out C2.out) (by omega)).mono ?_
  rintro e w23 ⟨rfl, hl⟩
  have L23 := Lib.hid (L22.out.trans (hl.mono L22.out.size))
  have X23 := Lib.hid (X22.out.below hl)
  have V1_23 := Lib.hid (V1_22.out.below hl V1_22.out.lt)
  have V2_23 := Lib.hid (V2_22.out.below hl V2_22.out.lt)
  have V3_23 := Lib.hid (V3_22.out.below hl V3_22.out.lt)
  have W23 := Lib.hid (W22.out.below hl)
  have P1_23 := Lib.hid (P1_22.out.below hl P1_22.out.lt)
  have P2_23 := Lib.hid (P2_22.out.below hl P2_22.out.lt)
  have P3_23 := Lib.hid (P3_22.out.below hl P3_22.out.lt)
  have Q23 := Lib.hid (Q22.out.below hl)
  have XA_23 := Lib.hid (XA_22.out.below hl XA_22.out.lt)
  have XB_23 := Lib.hid (XB_22.out.below hl XB_22.out.lt)
  have XC_23 := Lib.hid (XC_22.out.below hl XC_22.out.lt)
  have G1_23 := Lib.hid (G1_22.out.below hl G1_22.out.lt)
  have G2_23 := Lib.hid (G2_22.out.below hl G2_22.out.lt)
  have G3_23 := Lib.hid (G3_22.out.below hl G3_22.out.lt)
  have G23 := Lib.hid (G22.out.below hl)
  clear hl L22 X22 V1_22 V2_22 V3_22 W22 P1_22 P2_22 P3_22 Q22 XA_22 XB_22 XC_22 G1_22 G2_22 G3_22 G22 YXB_22
  go_wp2_with fail
  refine (toRecordS_g E3 k3 d3 j3 _ (T3.out.on L23.out) (by omega)).mono ?_
  rintro e w24 ⟨yxc, rfl, hb, hg, hl⟩
  have YXC_24 := Lib.hid hb
  have L24 := Lib.hid (L23.out.trans (hl.mono L23.out.size))
  have X24 := Lib.hid (X23.out.below hl)
  have V1_24 := Lib.hid (V1_23.out.below hl V1_23.out.lt)
  have V2_24 := Lib.hid (V2_23.out.below hl V2_23.out.lt)
  have V3_24 := Lib.hid (V3_23.out.below hl V3_23.out.lt)
  have W24 := Lib.hid (W23.out.below hl)
  have P1_24 := Lib.hid (P1_23.out.below hl P1_23.out.lt)
  have P2_24 := Lib.hid (P2_23.out.below hl P2_23.out.lt)
  have P3_24 := Lib.hid (P3_23.out.below hl P3_23.out.lt)
  have Q24 := Lib.hid (Q23.out.below hl)
  have XA_24 := Lib.hid (XA_23.out.below hl XA_23.out.lt)
  have XB_24 := Lib.hid (XB_23.out.below hl XB_23.out.lt)
  have XC_24 := Lib.hid (XC_23.out.below hl XC_23.out.lt)
  have G1_24 := Lib.hid (G1_23.out.below hl G1_23.out.lt)
  have G2_24 := Lib.hid (G2_23.out.below hl G2_23.out.lt)
  have G3_24 := Lib.hid (G3_23.out.below hl G3_23.out.lt)
  have G24 := Lib.hid (G23.out.below hl)
  clear hl L23 X23 V1_23 V2_23 V3_23 W23 P1_23 P2_23 P3_23 Q23 XA_23 XB_23 XC_23 G1_23 G2_23 G3_23 G23
  clear hb hg 
  go_wp2_with fail
  refine (eqRecordS_same _ _ k3 k3 k3 j3 _ (bk_sr0 XC_24.out C3.out) (bk_sr0 YXC_24.out C3.out) (by omega)).mono ?_
  rintro e w25 ⟨rfl, hl⟩
  have L25 := Lib.hid (L24.out.trans (hl.mono L24.out.size))
  have X25 := Lib.hid (X24.out.below hl)
  have V1_25 := Lib.hid (V1_24.out.below hl V1_24.out.lt)
  have V2_25 := Lib.hid (V2_24.out.below hl V2_24.out.lt)
  have V3_25 := Lib.hid (V3_24.out.below hl V3_24.out.lt)
  have W25 := Lib.hid (W24.out.below hl)
  have P1_25 := Lib.hid (P1_24.out.below hl P1_24.out.lt)
  have P2_25 := Lib.hid (P2_24.out.below hl P2_24.out.lt)
  have P3_25 := Lib.hid (P3_24.out.below hl P3_24.out.lt)
  have Q25 := Lib.hid (Q24.out.below hl)
  have XA_25 := Lib.hid (XA_24.out.below hl XA_24.out.lt)
  have XB_25 := Lib.hid (XB_24.out.below hl XB_24.out.lt)
  have XC_25 := Lib.hid (XC_24.out.below hl XC_24.out.lt)
  have G1_25 := Lib.hid (G1_24.out.below hl G1_24.out.lt)
  have G2_25 := Lib.hid (G2_24.out.below hl G2_24.out.lt)
  have G3_25 := Lib.hid (G3_24.out.below hl G3_24.out.lt)
  have G25 := Lib.hid (G24.out.below hl)
  clear hl L24 X24 V1_24 V2_24 V3_24 W24 P1_24 P2_24 P3_24 Q24 XA_24 XB_24 XC_24 G1_24 G2_24 G3_24 G24 YXC_24
  obtain ⟨x0_0, x0_1, x0_2, x0_3, x0_4, x0_5, x0_6, x0_7, x0_8, x0_9, x0_10, x0_11⟩ := Q25.out
  go_wp2_with fail
  refine (markMsg_one h p1 n1 e1 p2 n2 e2 p3 n3 e3 l1 l2 l3 rp1 rp2 rp3 _ P1_25.out P2_25.out P3_25.out B1.out B2.out B3.out (by have := ORD.out; omega) (by have := ORD.out; omega) (by omega)).mono ?_
  rintro e w26 ⟨rfl, -, -, -, ht⟩
  have L26 := Lib.hid (ht.below L25.out (by have := ORD.out; omega) (by have := ORD.out; omega) (by have := ORD.out; omega))
  have X26 := Lib.hid (ht.mx X25.out (by have := ORD.out; omega) (by have := ORD.out; omega) (by have := ORD.out; omega))
  have V1_26 := Lib.hid (ht.bk V1_25.out (by have := ORD.out; omega) (by have := ORD.out; omega) (by have := ORD.out; omega))
  have V2_26 := Lib.hid (ht.bk V2_25.out (by have := ORD.out; omega) (by have := ORD.out; omega) (by have := ORD.out; omega))
  have V3_26 := Lib.hid (ht.bk V3_25.out (by have := ORD.out; omega) (by have := ORD.out; omega) (by have := ORD.out; omega))
  have W26 := Lib.hid (ht.mx W25.out (by have := ORD.out; omega) (by have := ORD.out; omega) (by have := ORD.out; omega))
  have XA_26 := Lib.hid (ht.bk XA_25.out (by have := ORD.out; omega) (by have := ORD.out; omega) (by have := ORD.out; omega))
  have XB_26 := Lib.hid (ht.bk XB_25.out (by have := ORD.out; omega) (by have := ORD.out; omega) (by have := ORD.out; omega))
  have XC_26 := Lib.hid (ht.bk XC_25.out (by have := ORD.out; omega) (by have := ORD.out; omega) (by have := ORD.out; omega))
  have G1_26 := Lib.hid (ht.bk G1_25.out (by have := ORD.out; omega) (by have := ORD.out; omega) (by have := ORD.out; omega))
  have G2_26 := Lib.hid (ht.bk G2_25.out (by have := ORD.out; omega) (by have := ORD.out; omega) (by have := ORD.out; omega))
  have G3_26 := Lib.hid (ht.bk G3_25.out (by have := ORD.out; omega) (by have := ORD.out; omega) (by have := ORD.out; omega))
  have G26 := Lib.hid (ht.mx G25.out (by have := ORD.out; omega) (by have := ORD.out; omega) (by have := ORD.out; omega))
  clear ht L25 X25 V1_25 V2_25 V3_25 W25 P1_25 P2_25 P3_25 Q25 XA_25 XB_25 XC_25 G1_25 G2_25 G3_25 G25  x0_0 x0_1 x0_2 x0_3 x0_4 x0_5 x0_6 x0_7 x0_8 x0_9 x0_10 x0_11
  obtain ⟨a1, ha1⟩ : ∃ a, 1 + 6 * (n1 + n2 + n3) = a := ⟨_, rfl⟩
  rw [ha1]
  have zz1 : a1 ≤ 1 + 6 * (n1 + n2 + n3) ∧ 0 < a1 := by omega
  clear ha1
  go_wp2_with fail
  refine (markRecordS_at xa k1 k1 a1 j1 [] _ (by rw [List.append_nil]; exact XA_26.out) C1.out (by omega) (by omega)).mono ?_
  rintro e w27 ⟨rfl, -, ht⟩
  have ea : (a1 : Int) + 6 * (k1 : Int) = ((a1 + 6 * k1 : Nat) : Int) := by omega
  rw [ea]
  obtain ⟨a2, ha2⟩ : ∃ a, a1 + 6 * k1 = a := ⟨_, rfl⟩
  rw [ha2]
  have zz2 : a2 ≤ a1 + 6 * k1 ∧ 0 < a2 := by omega
  have L27 := Lib.hid (L26.out.grown ht L26.out.size (fun j hj => by cases hj; exact (by have := ORD.out; omega)))
  have X27 := Lib.hid (X26.out.grown ht (fun e => by have := Option.some.inj e; have := ORD.out; omega))
  have V1_27 := Lib.hid (V1_26.out.grown ht (fun e => by have := Option.some.inj e; have := ORD.out; omega))
  have V2_27 := Lib.hid (V2_26.out.grown ht (fun e => by have := Option.some.inj e; have := ORD.out; omega))
  have V3_27 := Lib.hid (V3_26.out.grown ht (fun e => by have := Option.some.inj e; have := ORD.out; omega))
  have W27 := Lib.hid (W26.out.grown ht (fun e => by have := Option.some.inj e; have := ORD.out; omega))
  have XB_27 := Lib.hid (XB_26.out.grown ht (fun e => by have := Option.some.inj e; have := ORD.out; omega))
  have XC_27 := Lib.hid (XC_26.out.grown ht (fun e => by have := Option.some.inj e; have := ORD.out; omega))
  have G1_27 := Lib.hid (G1_26.out.grown ht (fun e => by have := Option.some.inj e; have := ORD.out; omega))
  have G2_27 := Lib.hid (G2_26.out.grown ht (fun e => by have := Option.some.inj e; have := ORD.out; omega))
  have G3_27 := Lib.hid (G3_26.out.grown ht (fun e => by have := Option.some.inj e; have := ORD.out; omega))
  have G27 := Lib.hid (G26.out.grown ht (fun e => by have := Option.some.inj e; have := ORD.out; omega))
  clear ht L26 X26 V1_26 V2_26 V3_26 W26 XA_26 XB_26 XC_26 G1_26 G2_26 G3_26 G26 ea ha2 
  go_wp2_with fail
  refine (markRecordS_at xb k2 k2 a2 j2 [] _ (by rw [List.append_nil]; exact XB_27.out) C2.out (by omega) (by omega)).mono ?_
  rintro e w28 ⟨rfl, -, ht⟩
  have ea : (a2 : Int) + 6 * (k2 : Int) = ((a2 + 6 * k2 : Nat) : Int) := by omega
  rw [ea]
  obtain ⟨a3, ha3⟩ : ∃ a, a2 + 6 * k2 = a := ⟨_, rfl⟩
  rw [ha3]
  have zz3 : a3 ≤ a2 + 6 * k2 ∧ 0 < a3 := by omega
  have L28 := Lib.hid (L27.out.grown ht L27.out.size (fun j hj => by cases hj; exact (by have := ORD.out; omega)))
  have X28 := Lib.hid (X27.out.grown ht (fun e => by have := Option.some.inj e; have := ORD.out; omega))
  have V1_28 := Lib.hid (V1_27.out.grown ht (fun e => by have := Option.some.inj e; have := ORD.out; omega))
  have V2_28 := Lib.hid (V2_27.out.grown ht (fun e => by have := Option.some.inj e; have := ORD.out; omega))
  have V3_28 := Lib.hid (V3_27.out.grown ht (fun e => by have := Option.some.inj e; have := ORD.out; omega))
  have W28 := Lib.hid (W27.out.grown ht (fun e => by have := Option.some.inj e; have := ORD.out; omega))
  have XC_28 := Lib.hid (XC_27.out.grown ht (fun e => by have := Option.some.inj e; have := ORD.out; omega))
  have G1_28 := Lib.hid (G1_27.out.grown ht (fun e => by have := Option.some.inj e; have := ORD.out; omega))
  have G2_28 := Lib.hid (G2_27.out.grown ht (fun e => by have := Option.some.inj e; have := ORD.out; omega))
  have G3_28 := Lib.hid (G3_27.out.grown ht (fun e => by have := Option.some.inj e; have := ORD.out; omega))
  have G28 := Lib.hid (G27.out.grown ht (fun e => by have := Option.some.inj e; have := ORD.out; omega))
  clear ht L27 X27 V1_27 V2_27 V3_27 W27 XB_27 XC_27 G1_27 G2_27 G3_27 G27 ea ha3 
  go_wp2_with fail
  refine (markRecordS_at xc k3 k3 a3 j3 [] _ (by rw [List.append_nil]; exact XC_28.out) C3.out (by omega) (by omega)).mono ?_
  rintro e w29 ⟨rfl, -, ht⟩
  have ea : (a3 : Int) + 6 * (k3 : Int) = ((a3 + 6 * k3 : Nat) : Int) := by omega
  rw [ea]
  obtain ⟨a4, ha4⟩ : ∃ a, a3 + 6 * k3 = a := ⟨_, rfl⟩
  rw [ha4]
  have zz4 : a4 ≤ a3 + 6 * k3 ∧ 0 < a4 := by omega
  have L29 := Lib.hid (L28.out.grown ht L28.out.size (fun j hj => by cases hj; exact (by have := ORD.out; omega)))
  have X29 := Lib.hid (X28.out.grown ht (fun e => by have := Option.some.inj e; have := ORD.out; omega))
  have V1_29 := Lib.hid (V1_28.out.grown ht (fun e => by have := Option.some.inj e; have := ORD.out; omega))
  have V2_29 := Lib.hid (V2_28.out.grown ht (fun e => by have := Option.some.inj e; have := ORD.out; omega))
  have V3_29 := Lib.hid (V3_28.out.grown ht (fun e => by have := Option.some.inj e; have := ORD.out; omega))
  have W29 := Lib.hid (W28.out.grown ht (fun e => by have := Option.some.inj e; have := ORD.out; omega))
  have G1_29 := Lib.hid (G1_28.out.grown ht (fun e => by have := Option.some.inj e; have := ORD.out; omega))
  have G2_29 := Lib.hid (G2_28.out.grown ht (fun e => by have := Option.some.inj e; have := ORD.out; omega))
  have G3_29 := Lib.hid (G3_28.out.grown ht (fun e => by have := Option.some.inj e; have := ORD.out; omega))
  have G29 := Lib.hid (G28.out.grown ht (fun e => by have := Option.some.inj e; have := ORD.out; omega))
  clear ht L28 X28 V1_28 V2_28 V3_28 W28 XC_28 G1_28 G2_28 G3_28 G28 ea ha4 
  have np : ¬ (a4 : Int) < 0 := by omega
  have np2 : decide ((a4 : Int) < 0) = false := decide_eq_false np
  obtain ⟨x0_0, x0_1, x0_2, x0_3, x0_4, x0_5, x0_6, x0_7, x0_8, x0_9, x0_10, x0_11⟩ := G29.out
  obtain ⟨x1_0, x1_1, x1_2, x1_3, x1_4, x1_5, x1_6, x1_7, x1_8, x1_9, x1_10, x1_11⟩ := W29.out
  go_wp2_with fail
  refine (eqMsg_same (rph h code au) _ _ k1 z1 f1 j1 _ _ k2 z2 f2 j2 _ _ k3 z3 f3 j3 _ (bk_sr G1_29.out C1.out) (bk_sr V1_29.out C1.out) (by omega) (bk_sr G2_29.out C2.out) (bk_sr V2_29.out C2.out) (by omega) (bk_sr G3_29.out C3.out) (bk_sr V3_29.out C3.out) (by omega)).mono ?_
  rintro e w30 ⟨rfl, hl⟩
  have L30 := Lib.hid (L29.out.trans (hl.mono L29.out.size))
  have X30 := Lib.hid (X29.out.below hl)
  have V1_30 := Lib.hid (V1_29.out.below hl V1_29.out.lt)
  have V2_30 := Lib.hid (V2_29.out.below hl V2_29.out.lt)
  have V3_30 := Lib.hid (V3_29.out.below hl V3_29.out.lt)
  have W30 := Lib.hid (W29.out.below hl)
  have G1_30 := Lib.hid (G1_29.out.below hl G1_29.out.lt)
  have G2_30 := Lib.hid (G2_29.out.below hl G2_29.out.lt)
  have G3_30 := Lib.hid (G3_29.out.below hl G3_29.out.lt)
  have G30 := Lib.hid (G29.out.below hl)
  clear hl L29 X29 V1_29 V2_29 V3_29 W29 G1_29 G2_29 G3_29 G29
  clear  x0_0 x0_1 x0_2 x0_3 x0_4 x0_5 x0_6 x0_7 x0_8 x0_9 x0_10 x0_11 x1_0 x1_1 x1_2 x1_3 x1_4 x1_5 x1_6 x1_7 x1_8 x1_9 x1_10 x1_11
  clear np np2
  obtain ⟨x0_0, x0_1, x0_2, x0_3, x0_4, x0_5, x0_6, x0_7, x0_8, x0_9, x0_10, x0_11⟩ := G30.out
  go_wp2_with fail
  refine (markMsg_one (rph h code au) g1 k1 z1 g2 k2 z2 g3 k3 z3 j1 j2 j3 rg1 rg2 rg3 _ G1_30.out G2_30.out G3_30.out C1.out C2.out C3.out (by have := ORD.out; omega) (by have := ORD.out; omega) (by omega)).mono ?_
  rintro e w31 ⟨rfl, hm1, hm2, hm3, ht⟩
  have M1_31 := Lib.hid hm1
  have M2_31 := Lib.hid hm2
  have M3_31 := Lib.hid hm3
  have L31 := Lib.hid (ht.below L30.out (by have := ORD.out; omega) (by have := ORD.out; omega) (by have := ORD.out; omega))
  have X31 := Lib.hid (ht.mx X30.out (by have := ORD.out; omega) (by have := ORD.out; omega) (by have := ORD.out; omega))
  have V1_31 := Lib.hid (ht.bk V1_30.out (by have := ORD.out; omega) (by have := ORD.out; omega) (by have := ORD.out; omega))
  have V2_31 := Lib.hid (ht.bk V2_30.out (by have := ORD.out; omega) (by have := ORD.out; omega) (by have := ORD.out; omega))
  have V3_31 := Lib.hid (ht.bk V3_30.out (by have := ORD.out; omega) (by have := ORD.out; omega) (by have := ORD.out; omega))
  have W31 := Lib.hid (ht.mx W30.out (by have := ORD.out; omega) (by have := ORD.out; omega) (by have := ORD.out; omega))
  have G31 := Lib.hid (ht.mx G30.out (by have := ORD.out; omega) (by have := ORD.out; omega) (by have := ORD.out; omega))
  clear ht L30 X30 V1_30 V2_30 V3_30 W30 G1_30 G2_30 G3_30 G30 hm1 hm2 hm3 x0_0 x0_1 x0_2 x0_3 x0_4 x0_5 x0_6 x0_7 x0_8 x0_9 x0_10 x0_11
  have HU : Hid (∃ a : Nat, 1 + 6 * (k1 + k2 + k3) = a) := ⟨_, rfl⟩
  obtain ⟨u, hu⟩ := HU.out
  have UU := Lib.hid hu
  rw [hu]
  have nu : ¬ (u : Int) < 0 := by omega
  clear hu HU
  obtain ⟨x0_0, x0_1, x0_2, x0_3, x0_4, x0_5, x0_6, x0_7, x0_8, x0_9, x0_10, x0_11⟩ := G31.out
  go_wp2_with fail
  refine (heldMsg_one (rph h code au) g1 k1 z1 g2 k2 z2 g3 k3 z3 rg1 rg2 rg3 _ M1_31.out M2_31.out M3_31.out (by omega)).mono ?_
  rintro e w32 ⟨rfl, hl⟩
  rw [UU.out]
  have L32 := Lib.hid (L31.out.trans (hl.mono L31.out.size))
  have X32 := Lib.hid (X31.out.below hl)
  have V1_32 := Lib.hid (V1_31.out.below hl V1_31.out.lt)
  have V2_32 := Lib.hid (V2_31.out.below hl V2_31.out.lt)
  have V3_32 := Lib.hid (V3_31.out.below hl V3_31.out.lt)
  have W32 := Lib.hid (W31.out.below hl)
  have G32 := Lib.hid (G31.out.below hl)
  have M1_32 := Lib.hid (M1_31.out.below hl M1_31.out.lt)
  have M2_32 := Lib.hid (M2_31.out.below hl M2_31.out.lt)
  have M3_32 := Lib.hid (M3_31.out.below hl M3_31.out.lt)
  clear hl L31 X31 V1_31 V2_31 V3_31 W31 G31 M1_31 M2_31 M3_31
  clear  x0_0 x0_1 x0_2 x0_3 x0_4 x0_5 x0_6 x0_7 x0_8 x0_9 x0_10 x0_11
  obtain ⟨x0_0, x0_1, x0_2, x0_3, x0_4, x0_5, x0_6, x0_7, x0_8, x0_9, x0_10, x0_11⟩ := X32.out
  go_wp2_with fail
  refine (toMsg_any h A1 n1 c1 l1 A2 n2 c2 l2 A3 n3 c3 l3 _ (S1.out.on L32.out) (by omega) (S2.out.on L32.out) (by omega) (S3.out.on L32.out) (by omega)).mono ?_
  rintro e w33 ⟨tz1, fz1, rtz1, tz2, fz2, rtz2, tz3, fz3, rtz3, rfl, hb1, hb2, hb3, hg, h12, h23, hl⟩
  have TZ1_33 := Lib.hid hb1
  have TZ2_33 := Lib.hid hb2
  have TZ3_33 := Lib.hid hb3
  have L33 := Lib.hid (L32.out.trans (hl.mono L32.out.size))
  have X33 := Lib.hid (X32.out.below hl)
  have V1_33 := Lib.hid (V1_32.out.below hl V1_32.out.lt)
  have V2_33 := Lib.hid (V2_32.out.below hl V2_32.out.lt)
  have V3_33 := Lib.hid (V3_32.out.below hl V3_32.out.lt)
  have W33 := Lib.hid (W32.out.below hl)
  have G33 := Lib.hid (G32.out.below hl)
  have M1_33 := Lib.hid (M1_32.out.below hl M1_32.out.lt)
  have M2_33 := Lib.hid (M2_32.out.below hl M2_32.out.lt)
  have M3_33 := Lib.hid (M3_32.out.below hl M3_32.out.lt)
  clear hl L32 X32 V1_32 V2_32 V3_32 W32 G32 M1_32 M2_32 M3_32
  clear hb1 hb2 hb3 hg h12 h23 x0_0 x0_1 x0_2 x0_3 x0_4 x0_5 x0_6 x0_7 x0_8 x0_9 x0_10 x0_11
  go_wp2_with fail
  refine (toRecordS_g E1 k1 d1 j1 _ (T1.out.on L33.out) (by omega)).mono ?_
  rintro e w34 ⟨ta, rfl, hb, hg, hl⟩
  have TA_34 := Lib.hid hb
  have L34 := Lib.hid (L33.out.trans (hl.mono L33.out.size))
  have X34 := Lib.hid (X33.out.below hl)
  have V1_34 := Lib.hid (V1_33.out.below hl V1_33.out.lt)
  have V2_34 := Lib.hid (V2_33.out.below hl V2_33.out.lt)
  have V3_34 := Lib.hid (V3_33.out.below hl V3_33.out.lt)
  have W34 := Lib.hid (W33.out.below hl)
  have G34 := Lib.hid (G33.out.below hl)
  have M1_34 := Lib.hid (M1_33.out.below hl M1_33.out.lt)
  have M2_34 := Lib.hid (M2_33.out.below hl M2_33.out.lt)
  have M3_34 := Lib.hid (M3_33.out.below hl M3_33.out.lt)
  have TZ1_34 := Lib.hid (TZ1_33.out.below hl TZ1_33.out.lt)
  have TZ2_34 := Lib.hid (TZ2_33.out.below hl TZ2_33.out.lt)
  have TZ3_34 := Lib.hid (TZ3_33.out.below hl TZ3_33.out.lt)
  clear hl L33 X33 V1_33 V2_33 V3_33 W33 G33 M1_33 M2_33 M3_33 TZ1_33 TZ2_33 TZ3_33
  clear hb hg 
  go_wp2_with fail
  refine (toRecordS_g E2 k2 d2 j2 _ (T2.out.on L34.out) (by omega)).mono ?_
  rintro e w35 ⟨tb, rfl, hb, hg, hl⟩
  have TB_35 := Lib.hid hb
  have L35 := Lib.hid (L34.out.trans (hl.mono L34.out.size))
  have X35 := Lib.hid (X34.out.below hl)
  have V1_35 := Lib.hid (V1_34.out.below hl V1_34.out.lt)
  have V2_35 := Lib.hid (V2_34.out.below hl V2_34.out.lt)
  have V3_35 := Lib.hid (V3_34.out.below hl V3_34.out.lt)
  have W35 := Lib.hid (W34.out.below hl)
  have G35 := Lib.hid (G34.out.below hl)
  have M1_35 := Lib.hid (M1_34.out.below hl M1_34.out.lt)
  have M2_35 := Lib.hid (M2_34.out.below hl M2_34.out.lt)
  have M3_35 := Lib.hid (M3_34.out.below hl M3_34.out.lt)
  have TZ1_35 := Lib.hid (TZ1_34.out.below hl TZ1_34.out.lt)
  have TZ2_35 := Lib.hid (TZ2_34.out.below hl TZ2_34.out.lt)
  have TZ3_35 := Lib.hid (TZ3_34.out.below hl TZ3_34.out.lt)
  have TA_35 := Lib.hid (TA_34.out.below hl TA_34.out.lt)
  clear hl L34 X34 V1_34 V2_34 V3_34 W34 G34 M1_34 M2_34 M3_34 TZ1_34 TZ2_34 TZ3_34 TA_34
  clear hb hg 
  go_wp2_with fail
  refine (toRecordS_g E3 k3 d3 j3 _ (T3.out.on L35.out) (by omega)).mono ?_
  rintro e w36 ⟨tc, rfl, hb, hg, hl⟩
  have TC_36 := Lib.hid hb
  have L36 := Lib.hid (L35.out.trans (hl.mono L35.out.size))
  have X36 := Lib.hid (X35.out.below hl)
  have V1_36 := Lib.hid (V1_35.out.below hl V1_35.out.lt)
  have V2_36 := Lib.hid (V2_35.out.below hl V2_35.out.lt)
  have V3_36 := Lib.hid (V3_35.out.below hl V3_35.out.lt)
  have W36 := Lib.hid (W35.out.below hl)
  have G36 := Lib.hid (G35.out.below hl)
  have M1_36 := Lib.hid (M1_35.out.below hl M1_35.out.lt)
  have M2_36 := Lib.hid (M2_35.out.below hl M2_35.out.lt)
  have M3_36 := Lib.hid (M3_35.out.below hl M3_35.out.lt)
  have TZ1_36 := Lib.hid (TZ1_35.out.below hl TZ1_35.out.lt)
  have TZ2_36 := Lib.hid (TZ2_35.out.below hl TZ2_35.out.lt)
  have TZ3_36 := Lib.hid (TZ3_35.out.below hl TZ3_35.out.lt)
  have TA_36 := Lib.hid (TA_35.out.below hl TA_35.out.lt)
  have TB_36 := Lib.hid (TB_35.out.below hl TB_35.out.lt)
  clear hl L35 X35 V1_35 V2_35 V3_35 W35 G35 M1_35 M2_35 M3_35 TZ1_35 TZ2_35 TZ3_35 TA_35 TB_35
  clear hb hg 
  go_wp2_with fail
  refine (RepM.impl h _ _ _ n1 fz1 n2 fz2 n3 fz3 code au ta 0 k1 k1 j1 tb 0 k2 k2 j2 tc 0 k3 k3 j3 _ (bk_sr0 TA_36.out C1.out) (by omega) (bk_sr0 TB_36.out C2.out) (by omega) (bk_sr0 TC_36.out C3.out) (by omega)).mono ?_
  rintro e w37 ⟨o1, s1, ro1, o2, s2, ro2, o3, s3, ro3, rfl, hb1, hb2, hb3, hg, h12, h23, hl⟩
  have O1_37 := Lib.hid hb1
  have O2_37 := Lib.hid hb2
  have O3_37 := Lib.hid hb3
  have L37 := Lib.hid (L36.out.trans (hl.mono L36.out.size))
  have X37 := Lib.hid (X36.out.below hl)
  have V1_37 := Lib.hid (V1_36.out.below hl V1_36.out.lt)
  have V2_37 := Lib.hid (V2_36.out.below hl V2_36.out.lt)
  have V3_37 := Lib.hid (V3_36.out.below hl V3_36.out.lt)
  have W37 := Lib.hid (W36.out.below hl)
  have G37 := Lib.hid (G36.out.below hl)
  have M1_37 := Lib.hid (M1_36.out.below hl M1_36.out.lt)
  have M2_37 := Lib.hid (M2_36.out.below hl M2_36.out.lt)
  have M3_37 := Lib.hid (M3_36.out.below hl M3_36.out.lt)
  have TZ1_37 := Lib.hid (TZ1_36.out.below hl TZ1_36.out.lt)
  have TZ2_37 := Lib.hid (TZ2_36.out.below hl TZ2_36.out.lt)
  have TZ3_37 := Lib.hid (TZ3_36.out.below hl TZ3_36.out.lt)
  have TA_37 := Lib.hid (TA_36.out.below hl TA_36.out.lt)
  have TB_37 := Lib.hid (TB_36.out.below hl TB_36.out.lt)
  have TC_37 := Lib.hid (TC_36.out.below hl TC_36.out.lt)
  clear hl L36 X36 V1_36 V2_36 V3_36 W36 G36 M1_36 M2_36 M3_36 TZ1_36 TZ2_36 TZ3_36 TA_36 TB_36 TC_36
  clear hb1 hb2 hb3 hg h12 h23 
  clear TZ1_37
  clear TZ2_37
  clear TZ3_37
  clear TA_37
  clear TB_37
  clear TC_37
  have OH : Hid (o3 < w37.heap.size) := O3_37.out.lt
  have al : Below w37.heap.size w37 (w37.alloc (.cells #[.int .i64 (rph h code au).id, .bool (rph h code au).rp, .bool (rph h code au).au, .bool (rph h code au).ct, .bool (rph h code au).wa, .bool (rph h code au).ca, .int .i64 (rph h code au).code, .string (rph h code au).qn, .int .i64 (rph h code au).qt, .slice (some ⟨o1, 0, none⟩) k1 s1, .slice (some ⟨o2, 0, none⟩) k2 s2, .slice (some ⟨o3, 0, none⟩) k3 s3] 32)) := (Below.refl _ _).alloc (Nat.le_refl _) _
  have H38 := Lib.hid (mx_new w37 32 (rph h code au) (.slice (some ⟨o1, 0, none⟩) k1 s1) (.slice (some ⟨o2, 0, none⟩) k2 s2) (.slice (some ⟨o3, 0, none⟩) k3 s3))
  have L38 := Lib.hid (L37.out.trans (al.mono L37.out.size))
  have X38 := Lib.hid (X37.out.below al)
  have V1_38 := Lib.hid (V1_37.out.below al V1_37.out.lt)
  have V2_38 := Lib.hid (V2_37.out.below al V2_37.out.lt)
  have V3_38 := Lib.hid (V3_37.out.below al V3_37.out.lt)
  have W38 := Lib.hid (W37.out.below al)
  have G38 := Lib.hid (G37.out.below al)
  have M1_38 := Lib.hid (M1_37.out.below al M1_37.out.lt)
  have M2_38 := Lib.hid (M2_37.out.below al M2_37.out.lt)
  have M3_38 := Lib.hid (M3_37.out.below al M3_37.out.lt)
  have O1_38 := Lib.hid (O1_37.out.below al O1_37.out.lt)
  have O2_38 := Lib.hid (O2_37.out.below al O2_37.out.lt)
  have O3_38 := Lib.hid (O3_37.out.below al O3_37.out.lt)
  clear al L37 X37 V1_37 V2_37 V3_37 W37 G37 M1_37 M2_37 M3_37 O1_37 O2_37 O3_37
  obtain ⟨x0_0, x0_1, x0_2, x0_3, x0_4, x0_5, x0_6, x0_7, x0_8, x0_9, x0_10, x0_11⟩ := H38.out
  obtain ⟨x1_0, x1_1, x1_2, x1_3, x1_4, x1_5, x1_6, x1_7, x1_8, x1_9, x1_10, x1_11⟩ := W38.out
  go_wp2_with fail
  refine (eqMsg_same (rph h code au) _ _ k1 s1 f1 j1 _ _ k2 s2 f2 j2 _ _ k3 s3 f3 j3 _ (bk_sr O1_38.out C1.out) (bk_sr V1_38.out C1.out) (by omega) (bk_sr O2_38.out C2.out) (bk_sr V2_38.out C2.out) (by omega) (bk_sr O3_38.out C3.out) (bk_sr V3_38.out C3.out) (by omega)).mono ?_
  rintro e w39 ⟨rfl, hl⟩
  have L39 := Lib.hid (L38.out.trans (hl.mono L38.out.size))
  have X39 := Lib.hid (X38.out.below hl)
  have G39 := Lib.hid (G38.out.below hl)
  have M1_39 := Lib.hid (M1_38.out.below hl M1_38.out.lt)
  have M2_39 := Lib.hid (M2_38.out.below hl M2_38.out.lt)
  have M3_39 := Lib.hid (M3_38.out.below hl M3_38.out.lt)
  clear hl L38 X38 V1_38 V2_38 V3_38 W38 G38 M1_38 M2_38 M3_38 O1_38 O2_38 O3_38 H38
  clear  x0_0 x0_1 x0_2 x0_3 x0_4 x0_5 x0_6 x0_7 x0_8 x0_9 x0_10 x0_11 x1_0 x1_1 x1_2 x1_3 x1_4 x1_5 x1_6 x1_7 x1_8 x1_9 x1_10 x1_11
  obtain ⟨x0_0, x0_1, x0_2, x0_3, x0_4, x0_5, x0_6, x0_7, x0_8, x0_9, x0_10, x0_11⟩ := G39.out
  go_wp2_with fail
  refine (heldMsg_one (rph h code au) g1 k1 z1 g2 k2 z2 g3 k3 z3 rg1 rg2 rg3 _ M1_39.out M2_39.out M3_39.out (by omega)).mono ?_
  rintro e w40 ⟨rfl, hl⟩
  rw [UU.out]
  have L40 := Lib.hid (L39.out.trans (hl.mono L39.out.size))
  have X40 := Lib.hid (X39.out.below hl)
  clear hl L39 X39 G39 M1_39 M2_39 M3_39
  clear  x0_0 x0_1 x0_2 x0_3 x0_4 x0_5 x0_6 x0_7 x0_8 x0_9 x0_10 x0_11
  go_wp2
  go_ret
  exact ⟨rfl, L40.out⟩
end Go.Proofs.Ytbjhkhmhmldjoaa.LawReplyTo
