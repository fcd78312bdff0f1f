/- PutMsg answers as its model at every message. -/
import Derived.Test.YtkfibepejlgniaaGreatDoorExactPutMsgP2
import Derived.Test.YtkfibepejlgniaaGreatDoorSzM
import Derived.Test.YtkfibepejlgniaaGreatDoorExactPutMsgP3
import Derived.Deep.RegionHeld3
import Derived.Test.YtkfibepejlgniaaGreatDoorLabels
import Derived.LaidLaws
import Derived.Test.YtkfibepejlgniaaGreatDoorCards
import Derived.Test.YtkfibepejlgniaaGreatDoorTie
import Derived.ProofKit
import Derived.OpenShut
import Derived.ShutString
import Derived.ChangeOld
import Derived.Below
import Derived.Deep.DeepHandedRow
/- The law FnExactPutMsg returns true at every message, where the library's variable internal/bytealg.MaxLen holds an int, and turns nothing that was there: PutMsg answers as its model. -/
namespace Go.Proofs.YtkfibepejlgniaaGreatDoor.LawPutMsg
open Go.RowKit Go.Proofs.YtkfibepejlgniaaGreatDoor.Mem Go.Proofs.YtkfibepejlgniaaGreatDoor.MemR Go.Proofs.YtkfibepejlgniaaGreatDoor.BoxR Go.Proofs.YtkfibepejlgniaaGreatDoor.Labels Go.Proofs.YtkfibepejlgniaaGreatDoor.MemM Go.Proofs.YtkfibepejlgniaaGreatDoor.ResM Go.Proofs.YtkfibepejlgniaaGreatDoor.RowR Go.Proofs.YtkfibepejlgniaaGreatDoor.Eq Go.Proofs.YtkfibepejlgniaaGreatDoor.SzR Go.Proofs.YtkfibepejlgniaaGreatDoor.SzM Go.Proofs.YtkfibepejlgniaaGreatDoor.ToM Go.Proofs.YtkfibepejlgniaaGreatDoor.EqM Go.Proofs.YtkfibepejlgniaaGreatDoor.MarkR3 Go.Proofs.YtkfibepejlgniaaGreatDoor.MarkM Go.Proofs.YtkfibepejlgniaaGreatDoor.HeadDef Go.Proofs.YtkfibepejlgniaaGreatDoor.HeadMath Go.Proofs.YtkfibepejlgniaaGreatDoor.PutM

set_option maxRecDepth 100000 in
set_option maxHeartbeats 16000000 in
theorem walk (h : Hd) (A1 : Option Addr) (n1 c1 : Nat) (l1 : List Rec) (A2 : Option Addr) (n2 c2 : Nat) (l2 : List Rec) (A3 : Option Addr) (n3 c3 : Nat) (l3 : List Rec) (w : World) (he : Env w) (hq : h.qn.size ≤ 9223372036854775807) (i1 : IsRecs w A1 n1 l1) (i2 : IsRecs w A2 n2 l2) (i3 : IsRecs w A3 n3 l3) :
    Calls Tryz.prog 6 #[.agg #[.int .i64 h.id, .bool h.rp, .bool h.au, .bool h.ct, .bool h.wa, .bool h.ca, .int .i64 h.code, .string h.qn, .int .i64 h.qt, .slice A1 n1 c1, .slice A2 n2 c2, .slice A3 n3 c3]] w fun e w' => e = .returned (.bool true) ∧ Below w.heap.size w w' := by
  have HE := Lib.hid he
  have L0 := Lib.hid ((Below.refl w.heap.size w).alloc (Nat.le_refl _) (.cells #[.int .i64 h.id, .bool h.rp, .bool h.au, .bool h.ct, .bool h.wa, .bool h.ca, .int .i64 h.code, .string h.qn, .int .i64 h.qt, .slice A1 n1 c1, .slice A2 n2 c2, .slice A3 n3 c3] 56))
  have X0 := Lib.hid (mx_new w 56 h (.slice A1 n1 c1) (.slice A2 n2 c2) (.slice A3 n3 c3))
  have S1 := Lib.hid i1.1
  have m1 := i1.2.1
  have Z1 : Hid (Sms l1) := i1.2.2
  have B1 := Lib.hid i1.1.1
  have S2 := Lib.hid i2.1
  have m2 := i2.2.1
  have Z2 : Hid (Sms l2) := i2.2.2
  have B2 := Lib.hid i2.1.1
  have S3 := Lib.hid i3.1
  have m3 := i3.2.1
  have Z3 : Hid (Sms l3) := i3.2.2
  have B3 := Lib.hid i3.1.1
  clear i1 i2 i3 he
  go_enter Tryz.func6, Tryz.ntmps6
  go_wp2_with fail
  refine (szMsg_any h A1 n1 c1 l1 A2 n2 c2 l2 A3 n3 c3 l3 1048576 _ (by omega) (by omega) hq (S1.out.on L0.out) m1 Z1.out (S2.out.on L0.out) m2 Z2.out (S3.out.on L0.out) m3 Z3.out).mono ?_
  rintro e w1 ⟨y, rfl, hy0, hy1, hy, hl⟩
  have Y := Lib.hid hy
  have L1 := Lib.hid (L0.out.trans (hl.mono L0.out.size))
  have X1 := Lib.hid (X0.out.below hl)
  clear hl L0 X0
  clear hy 
  by_cases negy : y < 0
  · go_wp2
    go_ret
    exact ⟨rfl, L1.out⟩
  have bz : mz h l1 l2 l3 ≤ 1048576 := by have := Y.out (by omega); omega
  obtain ⟨g1, g2, g3, qz⟩ := meds_of bz
  have D1 := Lib.hid g1
  have D2 := Lib.hid g2
  have D3 := Lib.hid g3
  clear g1 g2 g3
  have b1 : n1 ≤ 1048576 := by have := B1.out; unfold mz at bz; omega
  have b2 : n2 ≤ 1048576 := by have := B2.out; unfold mz at bz; omega
  have b3 : n3 ≤ 1048576 := by have := B3.out; unfold mz at bz; omega
  clear Y bz
  obtain ⟨K, hK⟩ : ∃ K, pm h l1 l2 l3 = K := ⟨_, rfl⟩
  have HK := Lib.hid hK
  have KL : K.length ≤ 512 := by rw [← hK]; exact pm_len _ _ _ _
  clear hK
  obtain ⟨x0_0, x0_1, x0_2, x0_3, x0_4, x0_5, x0_6, x0_7, x0_8, x0_9, x0_10, x0_11⟩ := X1.out
  go_wp2_with fail
  refine (toMsg_any h A1 n1 c1 l1 A2 n2 c2 l2 A3 n3 c3 l3 _ (S1.out.on L1.out) (by omega) (S2.out.on L1.out) (by omega) (S3.out.on L1.out) (by omega)).mono ?_
  rintro e w2 ⟨t1, f1, rt1, t2, f2, rt2, t3, f3, rt3, rfl, hb1, hb2, hb3, hg, h12, h23, hl⟩
  have T1_2 := Lib.hid hb1
  have T2_2 := Lib.hid hb2
  have T3_2 := Lib.hid hb3
  have L2 := Lib.hid (L1.out.trans (hl.mono L1.out.size))
  have X2 := Lib.hid (X1.out.below hl)
  clear hl L1 X1
  clear hb1 hb2 hb3 hg h12 h23 x0_0 x0_1 x0_2 x0_3 x0_4 x0_5 x0_6 x0_7 x0_8 x0_9 x0_10 x0_11
  go_wp2_with fail
  refine (PutM.spec h _ n1 f1 l1 _ n2 f2 l2 _ n3 f3 l3 _ qz (bk_sr T1_2.out B1.out) b1 D1.out (bk_sr T2_2.out B2.out) b2 D2.out (bk_sr T3_2.out B3.out) b3 D3.out).mono ?_
  rintro e w3 ⟨v, mv, cv, rv, rfl, hm, hc, hg, hb, hl⟩
  rw [HK.out] at hm hb
  have Mv := Lib.hid hm
  have bv : mv ≤ 512 := by omega
  have V_3 := Lib.hid hb
  have OV : Hid (w.heap.size < v) := Nat.lt_of_lt_of_le X2.out.lt hg
  have L3 := Lib.hid (L2.out.trans (hl.mono L2.out.size))
  have X3 := Lib.hid (X2.out.below hl)
  clear hl L2 X2 T1_2 T2_2 T3_2
  clear hm hc hg hb 
  obtain ⟨x0_0, x0_1, x0_2, x0_3, x0_4, x0_5, x0_6, x0_7, x0_8, x0_9, x0_10, x0_11⟩ := X3.out
  go_wp2_with fail
  refine (toMsg_any h A1 n1 c1 l1 A2 n2 c2 l2 A3 n3 c3 l3 _ (S1.out.on L3.out) (by omega) (S2.out.on L3.out) (by omega) (S3.out.on L3.out) (by omega)).mono ?_
  rintro e w4 ⟨p1, e1, rp1, p2, e2, rp2, p3, e3, rp3, rfl, hb1, hb2, hb3, hg, h12, h23, hl⟩
  have P1_4 := Lib.hid hb1
  have P2_4 := Lib.hid hb2
  have P3_4 := Lib.hid hb3
  have OP : Hid (v < p1 ∧ p1 < p2 ∧ p2 < p3) := ⟨Nat.lt_of_lt_of_le V_3.out.lt hg, h12, h23⟩
  have L4 := Lib.hid (L3.out.trans (hl.mono L3.out.size))
  have X4 := Lib.hid (X3.out.below hl)
  have V_4 := Lib.hid (V_3.out.below hl V_3.out.lt)
  clear hl L3 X3 V_3
  clear hb1 hb2 hb3 hg h12 h23 x0_0 x0_1 x0_2 x0_3 x0_4 x0_5 x0_6 x0_7 x0_8 x0_9 x0_10 x0_11
  have OQ : Hid (p3 < w4.heap.size) := P3_4.out.lt
  have al : Below w4.heap.size w4 (w4.alloc (.cells #[.int .i64 h.id, .bool h.rp, .bool h.au, .bool h.ct, .bool h.wa, .bool h.ca, .int .i64 h.code, .string h.qn, .int .i64 h.qt, .slice (some ⟨p1, 0, none⟩) n1 e1, .slice (some ⟨p2, 0, none⟩) n2 e2, .slice (some ⟨p3, 0, none⟩) n3 e3] 28)) := (Below.refl _ _).alloc (Nat.le_refl _) _
  have Q5 := Lib.hid (mx_new w4 28 h (.slice (some ⟨p1, 0, none⟩) n1 e1) (.slice (some ⟨p2, 0, none⟩) n2 e2) (.slice (some ⟨p3, 0, none⟩) n3 e3))
  have L5 := Lib.hid (L4.out.trans (al.mono L4.out.size))
  have X5 := Lib.hid (X4.out.below al)
  have V_5 := Lib.hid (V_4.out.below al V_4.out.lt)
  have P1_5 := Lib.hid (P1_4.out.below al P1_4.out.lt)
  have P2_5 := Lib.hid (P2_4.out.below al P2_4.out.lt)
  have P3_5 := Lib.hid (P3_4.out.below al P3_4.out.lt)
  clear al L4 X4 V_4 P1_4 P2_4 P3_4
  obtain ⟨x0_0, x0_1, x0_2, x0_3, x0_4, x0_5, x0_6, x0_7, x0_8, x0_9, x0_10, x0_11⟩ := Q5.out
  go_wp2_with fail
  refine (PutM.impl h _ n1 e1 l1 _ n2 e2 l2 _ n3 e3 l3 _ (HE.out.below L5.out) qz (bk_sr P1_5.out B1.out) b1 D1.out (bk_sr P2_5.out B2.out) b2 D2.out (bk_sr P3_5.out B3.out) b3 D3.out).mono ?_
  rintro e w6 ⟨g, mg, cg, rg, rfl, hm, hc, hg, hb, hl⟩
  rw [HK.out] at hm hb
  have Mg := Lib.hid hm
  have bg : mg ≤ 512 := by omega
  have G_6 := Lib.hid hb
  have OG : Hid (w4.heap.size < g) := Nat.lt_of_lt_of_le Q5.out.lt hg
  have L6 := Lib.hid (L5.out.trans (hl.mono L5.out.size))
  have X6 := Lib.hid (X5.out.below hl)
  have V_6 := Lib.hid (V_5.out.below hl V_5.out.lt)
  have P1_6 := Lib.hid (P1_5.out.below hl P1_5.out.lt)
  have P2_6 := Lib.hid (P2_5.out.below hl P2_5.out.lt)
  have P3_6 := Lib.hid (P3_5.out.below hl P3_5.out.lt)
  have Q6 := Lib.hid (Q5.out.below hl)
  clear hl L5 X5 V_5 P1_5 P2_5 P3_5 Q5
  clear hm hc hg hb x0_0 x0_1 x0_2 x0_3 x0_4 x0_5 x0_6 x0_7 x0_8 x0_9 x0_10 x0_11
  generalize w4.heap.size = gq at *
  have ORD : Hid (w.heap.size < v ∧ v < p1 ∧ p1 < p2 ∧ p2 < p3 ∧ p3 < gq ∧ gq < g) := ⟨OV.out, OP.out.1, OP.out.2.1, OP.out.2.2, OQ.out, OG.out⟩
  clear OV OP OQ OG
  go_wp2_with fail
  refine (eqByteS_same _ _ mg cg mv cv K _ (Mg.out ▸ (G_6.out.sl'.wider G_6.out.lt)) (Mv.out ▸ (V_6.out.sl'.wider V_6.out.lt)) (by omega) (by omega)).mono ?_
  rintro e w7 ⟨rfl, hl⟩
  have L7 := Lib.hid (L6.out.trans (hl.mono L6.out.size))
  have X7 := Lib.hid (X6.out.below hl)
  have V_7 := Lib.hid (V_6.out.below hl V_6.out.lt)
  have P1_7 := Lib.hid (P1_6.out.below hl P1_6.out.lt)
  have P2_7 := Lib.hid (P2_6.out.below hl P2_6.out.lt)
  have P3_7 := Lib.hid (P3_6.out.below hl P3_6.out.lt)
  have Q7 := Lib.hid (Q6.out.below hl)
  have G_7 := Lib.hid (G_6.out.below hl G_6.out.lt)
  clear hl L6 X6 V_6 P1_6 P2_6 P3_6 Q6 G_6
  have TM : Hid (∀ W : World, (((W.cell? ⟨w.heap.size, 0, none⟩ = some (.int .i64 h.id) ∧ W.cell? ⟨w.heap.size, 1, none⟩ = some (.bool h.rp) ∧ W.cell? ⟨w.heap.size, 2, none⟩ = some (.bool h.au) ∧ W.cell? ⟨w.heap.size, 3, none⟩ = some (.bool h.ct) ∧ W.cell? ⟨w.heap.size, 4, none⟩ = some (.bool h.wa) ∧ W.cell? ⟨w.heap.size, 5, none⟩ = some (.bool h.ca) ∧ W.cell? ⟨w.heap.size, 6, none⟩ = some (.int .i64 h.code) ∧ W.cell? ⟨w.heap.size, 7, none⟩ = some (.string h.qn) ∧ W.cell? ⟨w.heap.size, 8, none⟩ = some (.int .i64 h.qt) ∧ W.cell? ⟨w.heap.size, 9, none⟩ = some (.slice A1 n1 c1) ∧ W.cell? ⟨w.heap.size, 10, none⟩ = some (.slice A2 n2 c2) ∧ W.cell? ⟨w.heap.size, 11, none⟩ = some (.slice A3 n3 c3)) ∧ (W.cell? ⟨gq, 0, none⟩ = some (.int .i64 h.id) ∧ W.cell? ⟨gq, 1, none⟩ = some (.bool h.rp) ∧ W.cell? ⟨gq, 2, none⟩ = some (.bool h.au) ∧ W.cell? ⟨gq, 3, none⟩ = some (.bool h.ct) ∧ W.cell? ⟨gq, 4, none⟩ = some (.bool h.wa) ∧ W.cell? ⟨gq, 5, none⟩ = some (.bool h.ca) ∧ W.cell? ⟨gq, 6, none⟩ = some (.int .i64 h.code) ∧ W.cell? ⟨gq, 7, none⟩ = some (.string h.qn) ∧ W.cell? ⟨gq, 8, none⟩ = some (.int .i64 h.qt) ∧ W.cell? ⟨gq, 9, none⟩ = some (.slice (some ⟨p1, 0, none⟩) n1 e1) ∧ W.cell? ⟨gq, 10, none⟩ = some (.slice (some ⟨p2, 0, none⟩) n2 e2) ∧ W.cell? ⟨gq, 11, none⟩ = some (.slice (some ⟨p3, 0, none⟩) n3 e3))) ∧ Sv w7 W) → Calls Tryz.prog 44 #[.agg #[.int .i64 h.id, .bool h.rp, .bool h.au, .bool h.ct, .bool h.wa, .bool h.ca, .int .i64 h.code, .string h.qn, .int .i64 h.qt, .slice A1 n1 c1, .slice A2 n2 c2, .slice A3 n3 c3]] W (GivesM W h n1 n2 n3 l1 l2 l3)) := fun W hW => toMsg_any h A1 n1 c1 l1 A2 n2 c2 l2 A3 n3 c3 l3 W ((S1.out.on L7.out).on hW.2) (by omega) ((S2.out.on L7.out).on hW.2) (by omega) ((S3.out.on L7.out).on hW.2) (by omega)
  have EQ : Hid (∀ (W : World) (t1 f1 : Nat) (q1 : List Value) (t2 f2 : Nat) (q2 : List Value) (t3 f3 : Nat) (q3 : List Value), (((W.cell? ⟨w.heap.size, 0, none⟩ = some (.int .i64 h.id) ∧ W.cell? ⟨w.heap.size, 1, none⟩ = some (.bool h.rp) ∧ W.cell? ⟨w.heap.size, 2, none⟩ = some (.bool h.au) ∧ W.cell? ⟨w.heap.size, 3, none⟩ = some (.bool h.ct) ∧ W.cell? ⟨w.heap.size, 4, none⟩ = some (.bool h.wa) ∧ W.cell? ⟨w.heap.size, 5, none⟩ = some (.bool h.ca) ∧ W.cell? ⟨w.heap.size, 6, none⟩ = some (.int .i64 h.code) ∧ W.cell? ⟨w.heap.size, 7, none⟩ = some (.string h.qn) ∧ W.cell? ⟨w.heap.size, 8, none⟩ = some (.int .i64 h.qt) ∧ W.cell? ⟨w.heap.size, 9, none⟩ = some (.slice A1 n1 c1) ∧ W.cell? ⟨w.heap.size, 10, none⟩ = some (.slice A2 n2 c2) ∧ W.cell? ⟨w.heap.size, 11, none⟩ = some (.slice A3 n3 c3)) ∧ (W.cell? ⟨gq, 0, none⟩ = some (.int .i64 h.id) ∧ W.cell? ⟨gq, 1, none⟩ = some (.bool h.rp) ∧ W.cell? ⟨gq, 2, none⟩ = some (.bool h.au) ∧ W.cell? ⟨gq, 3, none⟩ = some (.bool h.ct) ∧ W.cell? ⟨gq, 4, none⟩ = some (.bool h.wa) ∧ W.cell? ⟨gq, 5, none⟩ = some (.bool h.ca) ∧ W.cell? ⟨gq, 6, none⟩ = some (.int .i64 h.code) ∧ W.cell? ⟨gq, 7, none⟩ = some (.string h.qn) ∧ W.cell? ⟨gq, 8, none⟩ = some (.int .i64 h.qt) ∧ W.cell? ⟨gq, 9, none⟩ = some (.slice (some ⟨p1, 0, none⟩) n1 e1) ∧ W.cell? ⟨gq, 10, none⟩ = some (.slice (some ⟨p2, 0, none⟩) n2 e2) ∧ W.cell? ⟨gq, 11, none⟩ = some (.slice (some ⟨p3, 0, none⟩) n3 e3))) ∧ Sv w7 W) → Bk W t1 117 (fl l1 ++ q1) → Bk W t2 117 (fl l2 ++ q2) → Bk W t3 117 (fl l3 ++ q3) → Calls Tryz.prog 46 #[.agg #[.int .i64 h.id, .bool h.rp, .bool h.au, .bool h.ct, .bool h.wa, .bool h.ca, .int .i64 h.code, .string h.qn, .int .i64 h.qt, .slice (some ⟨p1, 0, none⟩) n1 e1, .slice (some ⟨p2, 0, none⟩) n2 e2, .slice (some ⟨p3, 0, none⟩) n3 e3], .agg #[.int .i64 h.id, .bool h.rp, .bool h.au, .bool h.ct, .bool h.wa, .bool h.ca, .int .i64 h.code, .string h.qn, .int .i64 h.qt, .slice (some ⟨t1, 0, none⟩) n1 f1, .slice (some ⟨t2, 0, none⟩) n2 f2, .slice (some ⟨t3, 0, none⟩) n3 f3]] W fun e w' => e = .returned (.bool true) ∧ Below W.heap.size W w') := fun W t1 f1 q1 t2 f2 q2 t3 f3 q3 hW k1 k2 k3 => eqMsg_same h _ _ n1 e1 f1 l1 _ _ n2 e2 f2 l2 _ _ n3 e3 f3 l3 W (bk_sr (P1_7.out.below hW.2 P1_7.out.lt) B1.out) (bk_sr k1 B1.out) (by omega) (bk_sr (P2_7.out.below hW.2 P2_7.out.lt) B2.out) (bk_sr k2 B2.out) (by omega) (bk_sr (P3_7.out.below hW.2 P3_7.out.lt) B3.out) (bk_sr k3 B3.out) (by omega)
  have S0 : (((w7.cell? ⟨w.heap.size, 0, none⟩ = some (.int .i64 h.id) ∧ w7.cell? ⟨w.heap.size, 1, none⟩ = some (.bool h.rp) ∧ w7.cell? ⟨w.heap.size, 2, none⟩ = some (.bool h.au) ∧ w7.cell? ⟨w.heap.size, 3, none⟩ = some (.bool h.ct) ∧ w7.cell? ⟨w.heap.size, 4, none⟩ = some (.bool h.wa) ∧ w7.cell? ⟨w.heap.size, 5, none⟩ = some (.bool h.ca) ∧ w7.cell? ⟨w.heap.size, 6, none⟩ = some (.int .i64 h.code) ∧ w7.cell? ⟨w.heap.size, 7, none⟩ = some (.string h.qn) ∧ w7.cell? ⟨w.heap.size, 8, none⟩ = some (.int .i64 h.qt) ∧ w7.cell? ⟨w.heap.size, 9, none⟩ = some (.slice A1 n1 c1) ∧ w7.cell? ⟨w.heap.size, 10, none⟩ = some (.slice A2 n2 c2) ∧ w7.cell? ⟨w.heap.size, 11, none⟩ = some (.slice A3 n3 c3)) ∧ (w7.cell? ⟨gq, 0, none⟩ = some (.int .i64 h.id) ∧ w7.cell? ⟨gq, 1, none⟩ = some (.bool h.rp) ∧ w7.cell? ⟨gq, 2, none⟩ = some (.bool h.au) ∧ w7.cell? ⟨gq, 3, none⟩ = some (.bool h.ct) ∧ w7.cell? ⟨gq, 4, none⟩ = some (.bool h.wa) ∧ w7.cell? ⟨gq, 5, none⟩ = some (.bool h.ca) ∧ w7.cell? ⟨gq, 6, none⟩ = some (.int .i64 h.code) ∧ w7.cell? ⟨gq, 7, none⟩ = some (.string h.qn) ∧ w7.cell? ⟨gq, 8, none⟩ = some (.int .i64 h.qt) ∧ w7.cell? ⟨gq, 9, none⟩ = some (.slice (some ⟨p1, 0, none⟩) n1 e1) ∧ w7.cell? ⟨gq, 10, none⟩ = some (.slice (some ⟨p2, 0, none⟩) n2 e2) ∧ w7.cell? ⟨gq, 11, none⟩ = some (.slice (some ⟨p3, 0, none⟩) n3 e3))) ∧ Sv w7 w7) := ⟨⟨X7.out, Q7.out⟩, Below.refl _ _⟩
  go_wp2
  go_region_held3 (fun w' => (((w'.cell? ⟨w.heap.size, 0, none⟩ = some (.int .i64 h.id) ∧ w'.cell? ⟨w.heap.size, 1, none⟩ = some (.bool h.rp) ∧ w'.cell? ⟨w.heap.size, 2, none⟩ = some (.bool h.au) ∧ w'.cell? ⟨w.heap.size, 3, none⟩ = some (.bool h.ct) ∧ w'.cell? ⟨w.heap.size, 4, none⟩ = some (.bool h.wa) ∧ w'.cell? ⟨w.heap.size, 5, none⟩ = some (.bool h.ca) ∧ w'.cell? ⟨w.heap.size, 6, none⟩ = some (.int .i64 h.code) ∧ w'.cell? ⟨w.heap.size, 7, none⟩ = some (.string h.qn) ∧ w'.cell? ⟨w.heap.size, 8, none⟩ = some (.int .i64 h.qt) ∧ w'.cell? ⟨w.heap.size, 9, none⟩ = some (.slice A1 n1 c1) ∧ w'.cell? ⟨w.heap.size, 10, none⟩ = some (.slice A2 n2 c2) ∧ w'.cell? ⟨w.heap.size, 11, none⟩ = some (.slice A3 n3 c3)) ∧ (w'.cell? ⟨gq, 0, none⟩ = some (.int .i64 h.id) ∧ w'.cell? ⟨gq, 1, none⟩ = some (.bool h.rp) ∧ w'.cell? ⟨gq, 2, none⟩ = some (.bool h.au) ∧ w'.cell? ⟨gq, 3, none⟩ = some (.bool h.ct) ∧ w'.cell? ⟨gq, 4, none⟩ = some (.bool h.wa) ∧ w'.cell? ⟨gq, 5, none⟩ = some (.bool h.ca) ∧ w'.cell? ⟨gq, 6, none⟩ = some (.int .i64 h.code) ∧ w'.cell? ⟨gq, 7, none⟩ = some (.string h.qn) ∧ w'.cell? ⟨gq, 8, none⟩ = some (.int .i64 h.qt) ∧ w'.cell? ⟨gq, 9, none⟩ = some (.slice (some ⟨p1, 0, none⟩) n1 e1) ∧ w'.cell? ⟨gq, 10, none⟩ = some (.slice (some ⟨p2, 0, none⟩) n2 e2) ∧ w'.cell? ⟨gq, 11, none⟩ = some (.slice (some ⟨p3, 0, none⟩) n3 e3))) ∧ Sv w7 w'))
    (first | with_reducible exact S0 | with_reducible assumption | exact kept2 (by assumption) hl | exact kept2_draw (by assumption) | fail)
    (first
      | (go_at_call 44; (with_reducible refine (TM.out _ (by assumption)).mono ?_); rintro e wt7 ⟨tt1, ff1, qq1, tt2, ff2, qq2, tt3, ff3, qq3, rfl, hb1, hb2, hb3, -, -, -, hl⟩)
      | (go_at_call 46; (with_reducible refine (EQ.out _ _ _ _ _ _ _ _ _ _ (by assumption) hb1 hb2 hb3).mono ?_); rintro e w8 ⟨rfl, hl⟩)
      | fail)
  rename_i hH
  have hz : Below w7.heap.size w7 w8 := hH.2
  clear hH hb1 hb2 hb3 hl S0 TM EQ
  have L8 := Lib.hid (L7.out.trans (hz.mono L7.out.size))
  have X8 := Lib.hid (X7.out.below hz)
  have V_8 := Lib.hid (V_7.out.below hz V_7.out.lt)
  have P1_8 := Lib.hid (P1_7.out.below hz P1_7.out.lt)
  have P2_8 := Lib.hid (P2_7.out.below hz P2_7.out.lt)
  have P3_8 := Lib.hid (P3_7.out.below hz P3_7.out.lt)
  have Q8 := Lib.hid (Q7.out.below hz)
  have G_8 := Lib.hid (G_7.out.below hz G_7.out.lt)
  clear hz L7 X7 V_7 P1_7 P2_7 P3_7 Q7 G_7
  obtain ⟨x0_0, x0_1, x0_2, x0_3, x0_4, x0_5, x0_6, x0_7, x0_8, x0_9, x0_10, x0_11⟩ := Q8.out
  go_wp2_with fail
  refine (markMsg_one h p1 n1 e1 p2 n2 e2 p3 n3 e3 l1 l2 l3 rp1 rp2 rp3 _ P1_8.out P2_8.out P3_8.out B1.out B2.out B3.out (by have := ORD.out; omega) (by have := ORD.out; omega) (by omega)).mono ?_
  rintro e w9 ⟨rfl, -, -, -, ht⟩
  have L9 := Lib.hid (ht.below L8.out (by have := ORD.out; omega) (by have := ORD.out; omega) (by have := ORD.out; omega))
  have X9 := Lib.hid (ht.mx X8.out (by have := ORD.out; omega) (by have := ORD.out; omega) (by have := ORD.out; omega))
  have V_9 := Lib.hid (ht.bk V_8.out (by have := ORD.out; omega) (by have := ORD.out; omega) (by have := ORD.out; omega))
  have G_9 := Lib.hid (ht.bk G_8.out (by have := ORD.out; omega) (by have := ORD.out; omega) (by have := ORD.out; omega))
  clear ht L8 X8 V_8 P1_8 P2_8 P3_8 Q8 G_8  x0_0 x0_1 x0_2 x0_3 x0_4 x0_5 x0_6 x0_7 x0_8 x0_9 x0_10 x0_11
  obtain ⟨a1, ha1⟩ : ∃ a, 1 + 6 * (n1 + n2 + n3) = a := ⟨_, rfl⟩
  rw [ha1]
  have np : ¬ (a1 : Int) < 0 := by omega
  have np2 : decide ((a1 : Int) < 0) = false := decide_eq_false np
  clear ha1
  go_wp2_with fail
  refine (eqByteS_same _ _ mg cg mv cv K _ (Mg.out ▸ (G_9.out.sl'.wider G_9.out.lt)) (Mv.out ▸ (V_9.out.sl'.wider V_9.out.lt)) (by omega) (by omega)).mono ?_
  rintro e w10 ⟨rfl, hl⟩
  have L10 := Lib.hid (L9.out.trans (hl.mono L9.out.size))
  have X10 := Lib.hid (X9.out.below hl)
  have V_10 := Lib.hid (V_9.out.below hl V_9.out.lt)
  have G_10 := Lib.hid (G_9.out.below hl G_9.out.lt)
  clear hl L9 X9 V_9 G_9
  clear np np2
  go_wp2_with fail
  refine (markByteS_one g mg cg K rg _ G_10.out Mg.out (by omega)).mono ?_
  rintro e w11 ⟨rfl, hm, ht⟩
  have H_11 := Lib.hid hm
  have L11 := Lib.hid (L10.out.grown ht L10.out.size (fun j hj => by cases hj; exact (by have := ORD.out; omega)))
  have X11 := Lib.hid (X10.out.grown ht (fun e => by have := Option.some.inj e; have := ORD.out; omega))
  have V_11 := Lib.hid (V_10.out.grown ht (fun e => by have := Option.some.inj e; have := ORD.out; omega))
  clear ht L10 X10 V_10 G_10 hm 
  go_wp2_with fail
  refine (heldByteS_one g mg cg rg _ H_11.out (by omega)).mono ?_
  rintro e w12 ⟨rfl, rfl⟩
  obtain ⟨x0_0, x0_1, x0_2, x0_3, x0_4, x0_5, x0_6, x0_7, x0_8, x0_9, x0_10, x0_11⟩ := X11.out
  go_wp2_with fail
  refine (toMsg_any h A1 n1 c1 l1 A2 n2 c2 l2 A3 n3 c3 l3 _ (S1.out.on L11.out) (by omega) (S2.out.on L11.out) (by omega) (S3.out.on L11.out) (by omega)).mono ?_
  rintro e w12 ⟨tz1, fz1, rtz1, tz2, fz2, rtz2, tz3, fz3, rtz3, rfl, hb1, hb2, hb3, hg, h12, h23, hl⟩
  have TZ1_12 := Lib.hid hb1
  have TZ2_12 := Lib.hid hb2
  have TZ3_12 := Lib.hid hb3
  have L12 := Lib.hid (L11.out.trans (hl.mono L11.out.size))
  have X12 := Lib.hid (X11.out.below hl)
  have V_12 := Lib.hid (V_11.out.below hl V_11.out.lt)
  have H_12 := Lib.hid (H_11.out.below hl H_11.out.lt)
  clear hl L11 X11 V_11 H_11
  clear hb1 hb2 hb3 hg h12 h23 x0_0 x0_1 x0_2 x0_3 x0_4 x0_5 x0_6 x0_7 x0_8 x0_9 x0_10 x0_11
  go_wp2_with fail
  refine (PutM.impl h _ n1 fz1 l1 _ n2 fz2 l2 _ n3 fz3 l3 _ (HE.out.below L12.out) qz (bk_sr TZ1_12.out B1.out) b1 D1.out (bk_sr TZ2_12.out B2.out) b2 D2.out (bk_sr TZ3_12.out B3.out) b3 D3.out).mono ?_
  rintro e w13 ⟨o, mo, co, ro, rfl, hm, hc, hg, hb, hl⟩
  rw [HK.out] at hm hb
  have Mo := Lib.hid hm
  have bo : mo ≤ 512 := by omega
  have O_13 := Lib.hid hb
  have L13 := Lib.hid (L12.out.trans (hl.mono L12.out.size))
  have V_13 := Lib.hid (V_12.out.below hl V_12.out.lt)
  have H_13 := Lib.hid (H_12.out.below hl H_12.out.lt)
  clear hl L12 X12 V_12 H_12 TZ1_12 TZ2_12 TZ3_12
  clear hm hc hg hb 
  go_wp2_with fail
  refine (eqByteS_same _ _ mo co mv cv K _ (Mo.out ▸ (O_13.out.sl'.wider O_13.out.lt)) (Mv.out ▸ (V_13.out.sl'.wider V_13.out.lt)) (by omega) (by omega)).mono ?_
  rintro e w14 ⟨rfl, hl⟩
  have L14 := Lib.hid (L13.out.trans (hl.mono L13.out.size))
  have H_14 := Lib.hid (H_13.out.below hl H_13.out.lt)
  clear hl L13 V_13 H_13 O_13
  go_wp2_with fail
  refine (heldByteS_one g mg cg rg _ H_14.out (by omega)).mono ?_
  rintro e w15 ⟨rfl, rfl⟩
  go_wp2
  go_ret
  exact ⟨rfl, L14.out⟩
end Go.Proofs.YtkfibepejlgniaaGreatDoor.LawPutMsg

/- What the world's shape gives the walks of this seat, and one world in which the listed tables of unicode/utf8 read as their text lays them. -/
namespace Go.Proofs.YtkfibepejlgniaaGreatDoor.LaidU
open Go.RowKit Go.Proofs.YtkfibepejlgniaaGreatDoor.Labels

theorem env {W : World} (h : W.ShapedOpen Tryz.prog) : Env W := Tryz.laysM146.s1_3 W h

def acc : List Int := [128, 191, 160, 191, 128, 159, 144, 191, 128, 143, 0, 0, 0, 0, 0, 0, 0, 0, 0, 0, 0, 0, 0, 0, 0, 0, 0, 0, 0, 0, 0, 0]
theorem gFirst : Tryz.prog.globalNamed "unicode/utf8.first" = some 4 := by kernel_rfl
theorem gAcc : Tryz.prog.globalNamed "unicode/utf8.acceptRanges" = some 5 := by kernel_rfl
/-- A block of cells, with other cells in it. -/
def put (cs : Array Value) : Obj → Obj
  | .cells _ t frozen => .cells cs t frozen
  | o => o
/-- The settled world, the two tables holding what their text lays. -/
noncomputable def laidWorld (os : Os) : World :=
  { World.holding Tryz.prog os ⟨#[], #[], []⟩ with heap := ((World.holding Tryz.prog os ⟨#[], #[], []⟩).heap.modify 4 (put (Go.Pinned.utf8FirstZ.map (fun n : Nat => Value.int .u8 (n : Int))).toArray)).modify 5 (put (acc.map (Value.int .u8)).toArray) }
def two : List (String × DataW Unit) := [("unicode/utf8.acceptRanges", Rows.laid_unicode_utf8_acceptRanges), ("unicode/utf8.first", Rows.laid_unicode_utf8_first)]
theorem laid_met (os : Os) (args : Array Value) : laidMet Tryz.prog two ((laidWorld os).forCall (fun _ _ => 0) ⟨#[], args, []⟩).memory :=
  laidMet_of_run' 8 (by kernel_rfl) (by kernel_rfl)
end Go.Proofs.YtkfibepejlgniaaGreatDoor.LaidU

/- PutMsg answers as its model at every message. -/
namespace Go.Proofs.YtkfibepejlgniaaGreatDoor.exactPutMsgCard
open Go.ChangeShapes Go.WideShapes Go.ChangeAt Go.RowKit Go.Proofs.YtkfibepejlgniaaGreatDoor.LaidU Go.Proofs.YtkfibepejlgniaaGreatDoor.Mem Go.Proofs.YtkfibepejlgniaaGreatDoor.RowM

theorem own : ownKnob Tryz.prog.godebug = none := by kernel_rfl
theorem laidOut : laidOutB Tryz.prog = true := by kernel_rfl

set_option maxRecDepth 100000 in
theorem contract (H : Type) (enc : TypeId × Value → H) (W : World) (base : Nat) (args : Array Value) (ds gs : List (DataW H)) (before : List MemPlace)
    (hval0 : ∀ (j : Nat) t v, Tryz.f6.params[j]? = some t → args[j]? = some v → Value.okWide Tryz.prog W .any base t v)
    (hW : DataW.Whole enc Tryz.prog Tryz.f6.params.toList Rows.fnExactPutMsgSpec.vars false W args.toList ds gs before) (hsh : W.ShapedOpen Tryz.prog) :
    Calls Tryz.prog 6 args W fun e W' => ∃ v, e = .returned v ∧ Rows.fnExactPutMsgSpec.post enc Tryz.prog Tryz.f6 false true false false W args v W' := by
  have hval : ∀ (j : Nat) t v, Tryz.f6.params[j]? = some t → args[j]? = some v → Value.okWide Tryz.prog W .any base t v := hval0
  have hW' := hW
  obtain ⟨p, q, hA0, hV, rfl, _, _⟩ := hW
  have hA : DataW.TrodAll enc Tryz.prog W 0 (fun _ => true) true Tryz.f6.params.toList args.toList ds p := hA0
  rw [Tryz.params6] at hA hval
  obtain ⟨v0, vs0, d0, ds0, p0, q0, _, rfl, rfl, h0, r0⟩ := trodAll_cons hA
  obtain ⟨rfl, rfl, rfl⟩ := trodAll_nil r0
  obtain rfl : args = #[v0] := by cases args; simp_all
  obtain ⟨rfl, rfl⟩ := trodVars_none hV
  have k0 := h0
  have lt0 : ∀ x ∈ p0, x.block < W.heap.size := by obtain ⟨m, hm⟩ := k0; exact DataW.trod_lt m _ _ _ hm
  obtain ⟨x0, a0_1, n0_1, c0_1, l0_1, a0_2, n0_2, c0_2, l0_2, a0_3, n0_3, c0_3, l0_3, rfl, z0, i0_1, i0_2, i0_3⟩ := msg_in (hval 0 56 v0 rfl rfl) h0
  clear hA0 hval0
  refine (LawPutMsg.walk x0 a0_1 n0_1 c0_1 l0_1 a0_2 n0_2 c0_2 l0_2 a0_3 n0_3 c0_3 l0_3 W (env hsh) z0 i0_1 i0_2 i0_3).mono fun e W' ⟨he, bel⟩ => ?_
  subst he
  exact ⟨_, rfl, _, _, _, [], _, [], hW', trodAll_mk1 (shut_bool Tryz.underlying4 _), (trodAll_cons_mk (Below.trod laidOut (by kernel_rfl) (of_decide_eq_true (by kernel_rfl)) k0 bel lt0) trodAll_mk0), rfl, bel.frame _, fun h => by cases h⟩

theorem reads (os : Os) {H : Type} (enc : TypeId × Value → H) : ∃ places, DataW.whole enc Tryz.prog ((laidWorld os).forCall (fun _ _ => 0) ⟨#[], #[.agg #[.int .i64 0, .bool false, .bool false, .bool false, .bool false, .bool false, .int .i64 0, .string ⟨#[]⟩, .int .i64 0, .slice none 0 0, .slice none 0 0, .slice none 0 0]], []⟩).memory Tryz.f6.params.toList Rows.fnExactPutMsgSpec.vars false #[Value.agg #[.int .i64 0, .bool false, .bool false, .bool false, .bool false, .bool false, .int .i64 0, .string ⟨#[]⟩, .int .i64 0, .slice none 0 0, .slice none 0 0, .slice none 0 0]].toList 8 = some ([.agg [.lit (.int .i64 0), .lit (.bool false), .lit (.bool false), .lit (.bool false), .lit (.bool false), .lit (.bool false), .lit (.int .i64 0), .agg [.lit (.string []), .lit (.int .i64 0)], .nil, .nil, .nil]], [], places) :=
  ⟨[], by kernel_rfl⟩

set_option maxRecDepth 100000 in
theorem lifted (os : Os) (started : os.Started) (H : Type) (enc : TypeId × Value → H) (F : Stop.Interp) :
    ReturnsInHanded {} Tryz.checked os 6 .any ((OpenSpec.ofChange Rows.fnExactPutMsgSpec).preRow enc Tryz.prog Tryz.f6 Rows.fnExactPutMsgRow.domain false Rows.fnExactPutMsgRow.laid) (((OpenSpec.ofChange Rows.fnExactPutMsgSpec).at F).post enc Tryz.prog Tryz.f6 false true false false) := by
  obtain ⟨places, hx⟩ := reads os enc
  refine returnsInHanded_of_row (C := Tryz.checked) (s := OpenSpec.ofChange Rows.fnExactPutMsgSpec) own started (by kernel_rfl) Tryz.func6
    (witness_row_at (enc := enc) (C := Tryz.checked) false (laidWorld os) #[.agg #[.int .i64 0, .bool false, .bool false, .bool false, .bool false, .bool false, .int .i64 0, .string ⟨#[]⟩, .int .i64 0, .slice none 0 0, .slice none 0 0, .slice none 0 0]] rfl (by kernel_rfl) (by kernel_rfl) (by kernel_rfl)
      (OpenSpec.preRow_of_cond 8 hx (by kernel_rfl) (fun k hk => by cases hk) (by kernel_rfl) (laid_met os _))) ?_
  intro W base args ds gs before hval hW _ _ _ _ hsh _
  exact contract H enc W base args ds gs before hval hW hsh

theorem said : Rows.FnExactPutMsgSaid :=
  OpenClaim.holds_of_cond 6 Tryz.f6 rfl rfl rfl rfl rfl rfl rfl ⟨rfl, rfl, rfl, rfl, rfl⟩ rfl rfl rfl rfl rfl (by kernel_rfl) Tryz.func6 (by kernel_rfl)
    (of_decide_eq_true (by kernel_rfl)) (by unfold Func.isWrapper; first | (rw [if_pos (by decide +kernel)]; kernel_rfl) | (rw [if_neg (by decide +kernel)]; exact ⟨rfl, rfl⟩))
    (fun os started H enc _ F => by rw [OpenClaim.pre_eq_preRow]; exact lifted os started H enc F)

theorem plain (f : FuncId) (fn : Func) (hf : Tryz.pinned.checked.prog.funcNamed "loop.example/g00497/laws.FnExactPutMsg" = some f) (hfn : Tryz.pinned.checked.prog.funcs[f]? = some fn) :
    true = Tryz.pinned.checked.prog.looks [] ∧ ∀ (j : Nat) t, fn.params[j]? = some t → Tryz.pinned.checked.prog.wantsStandIn t = false := by
  obtain rfl : f = 6 := Option.some.inj ((show Tryz.prog.funcNamed "loop.example/g00497/laws.FnExactPutMsg" = some 6 by kernel_rfl).symm.trans hf) |>.symm
  obtain rfl : fn = Tryz.f6 := (Option.some.inj (Tryz.func6.symm.trans hfn)).symm
  refine ⟨by kernel_rfl, fun j t ht => ?_⟩
  rw [Tryz.params6] at ht
  obtain rfl : t = 56 := by simpa using Array.mem_of_getElem? ht
  exact (show Tryz.prog.wantsStandIn 56 = false by kernel_rfl)

theorem card : Rows.FnExactPutMsgCardSaid :=
  Claim7.holds_tied_plain_at .later [] _ _ _ _ said (fun _ h => by cases h) (by kernel_rfl) (fun _ h => by cases h) fnExactPutMsg_row_tie rfl ⟨rfl, rfl⟩ (by kernel_rfl) rfl plain (by kernel_rfl)
end Go.Proofs.YtkfibepejlgniaaGreatDoor.exactPutMsgCard
namespace Go.Proofs.YtkfibepejlgniaaGreatDoor
theorem fnExactPutMsg_holds : Rows.FnExactPutMsgCardSaid := exactPutMsgCard.card
end Go.Proofs.YtkfibepejlgniaaGreatDoor
