/- The law FnExactMsgText returns true at every message, where the library's variable internal/bytealg.MaxLen holds an int and its table of powers of ten reads as its text lays it, and turns nothing that was there: MsgText answers as its model. -/
import Derived.Test.YtbjhkhmhmldjoaaDoorTxtM
import Derived.Test.YtbjhkhmhmldjoaaDoorSzM
import Derived.Test.YtbjhkhmhmldjoaaDoorToM
import Derived.Test.YtbjhkhmhmldjoaaDoorEqM
import Derived.Test.YtbjhkhmhmldjoaaDoorRowM
import Derived.Deep.RegionHeld3
namespace Go.Proofs.YtbjhkhmhmldjoaaDoor.LawMsgText
open Go.RowKit Go.Proofs.YtbjhkhmhmldjoaaDoor.Mem Go.Proofs.YtbjhkhmhmldjoaaDoor.MemR Go.Proofs.YtbjhkhmhmldjoaaDoor.BoxR Go.Proofs.YtbjhkhmhmldjoaaDoor.Labels Go.Proofs.YtbjhkhmhmldjoaaDoor.RecOk Go.Proofs.YtbjhkhmhmldjoaaDoor.MemM Go.Proofs.YtbjhkhmhmldjoaaDoor.ResM Go.Proofs.YtbjhkhmhmldjoaaDoor.RowR Go.Proofs.YtbjhkhmhmldjoaaDoor.SzM Go.Proofs.YtbjhkhmhmldjoaaDoor.ToM Go.Proofs.YtbjhkhmhmldjoaaDoor.EqM Go.Proofs.YtbjhkhmhmldjoaaDoor.OkM Go.Proofs.YtbjhkhmhmldjoaaDoor.Num Go.Proofs.YtbjhkhmhmldjoaaDoor.TxtM

theorem mods_of {h : Hd} {l1 l2 l3 : List Rec} (hz : mz h l1 l2 l3 ≤ 1048576) : Mods l1 ∧ Mods l2 ∧ Mods l3 ∧ h.qn.size ≤ 400000000 := by
  unfold mz at hz
  have key : ∀ l : List Rec, tot l ≤ 1048576 → Mods l := fun l hl r hr => by
    have := tot_le l r hr
    unfold rz at this
    exact ⟨by omega, by omega, by omega⟩
  exact ⟨key l1 (by omega), key l2 (by omega), key l3 (by omega), by omega⟩

set_option maxRecDepth 100000 in
set_option maxHeartbeats 8000000 in
theorem walk (h : Hd) (A1 : Option Addr) (n1 c1 : Nat) (l1 : List Rec) (A2 : Option Addr) (n2 c2 : Nat) (l2 : List Rec) (A3 : Option Addr) (n3 c3 : Nat) (l3 : List Rec) (w : World) (he : Env w) (ht : Tab w) (hq : h.qn.size ≤ 9223372036854775807) (i1 : IsRecs w A1 n1 l1) (i2 : IsRecs w A2 n2 l2) (i3 : IsRecs w A3 n3 l3) :
    Calls Tryd.prog 7 #[.agg #[.int .i64 h.id, .bool h.rp, .bool h.au, .bool h.ct, .bool h.wa, .bool h.ca, .int .i64 h.code, .string h.qn, .int .i64 h.qt, .slice A1 n1 c1, .slice A2 n2 c2, .slice A3 n3 c3]] w fun e w' => e = .returned (.bool true) ∧ Below w.heap.size w w' := by
  have HE := Lib.hid he
  have HT := Lib.hid ht
  have L0 := Lib.hid ((Below.refl w.heap.size w).alloc (Nat.le_refl _) (.cells #[.int .i64 h.id, .bool h.rp, .bool h.au, .bool h.ct, .bool h.wa, .bool h.ca, .int .i64 h.code, .string h.qn, .int .i64 h.qt, .slice A1 n1 c1, .slice A2 n2 c2, .slice A3 n3 c3] 51))
  have X0 := Lib.hid (mx_new w 51 h (.slice A1 n1 c1) (.slice A2 n2 c2) (.slice A3 n3 c3))
  have S1 := Lib.hid i1.1
  have m1 := i1.2.1
  have Z1 : Hid (Sms l1) := i1.2.2
  have B1 := Lib.hid i1.1.1
  have S2 := Lib.hid i2.1
  have m2 := i2.2.1
  have Z2 : Hid (Sms l2) := i2.2.2
  have B2 := Lib.hid i2.1.1
  have S3 := Lib.hid i3.1
  have m3 := i3.2.1
  have Z3 : Hid (Sms l3) := i3.2.2
  have B3 := Lib.hid i3.1.1
  clear i1 i2 i3 he ht
  go_enter Tryd.func7, Tryd.ntmps7
  go_wp2_with fail
  refine (szMsg_any h A1 n1 c1 l1 A2 n2 c2 l2 A3 n3 c3 l3 1048576 _ (by omega) (by omega) hq (S1.out.on L0.out) m1 Z1.out (S2.out.on L0.out) m2 Z2.out (S3.out.on L0.out) m3 Z3.out).mono ?_
  rintro e w1 ⟨y, rfl, hy0, hy1, hy, hl⟩
  have Y := Lib.hid hy
  have L1 := Lib.hid (L0.out.trans (hl.mono L0.out.size))
  have X1 := Lib.hid (X0.out.below hl)
  clear hl L0 X0
  clear hy 
  by_cases negy : y < 0
  · go_wp2
    go_ret
    exact ⟨rfl, L1.out⟩
  have bz : mz h l1 l2 l3 ≤ 1048576 := by have := Y.out (by omega); omega
  obtain ⟨g1, g2, g3, qz⟩ := mods_of bz
  have D1 := Lib.hid g1
  have D2 := Lib.hid g2
  have D3 := Lib.hid g3
  have b1 : n1 ≤ 400000000 := by have := B1.out; unfold mz at bz; omega
  have b2 : n2 ≤ 400000000 := by have := B2.out; unfold mz at bz; omega
  have b3 : n3 ≤ 400000000 := by have := B3.out; unfold mz at bz; omega
  clear g1 g2 g3 Y bz
  obtain ⟨q, hqq⟩ : ∃ q, mtx h l1 l2 l3 = q := ⟨_, rfl⟩
  have HQ := Lib.hid hqq
  clear hqq
  obtain ⟨x0_0, x0_1, x0_2, x0_3, x0_4, x0_5, x0_6, x0_7, x0_8, x0_9, x0_10, x0_11⟩ := X1.out
  go_wp2_with fail
  refine (toMsg_any h A1 n1 c1 l1 A2 n2 c2 l2 A3 n3 c3 l3 _ (S1.out.on L1.out) b1 (S2.out.on L1.out) b2 (S3.out.on L1.out) b3).mono ?_
  rintro e w2 ⟨t1, f1, rt1, t2, f2, rt2, t3, f3, rt3, rfl, hb1, hb2, hb3, -, -, -, hl⟩
  have T1_2 := Lib.hid hb1
  have T2_2 := Lib.hid hb2
  have T3_2 := Lib.hid hb3
  have L2 := Lib.hid (L1.out.trans (hl.mono L1.out.size))
  have X2 := Lib.hid (X1.out.below hl)
  clear hl L1 X1
  clear hb1 hb2 hb3 x0_0 x0_1 x0_2 x0_3 x0_4 x0_5 x0_6 x0_7 x0_8 x0_9 x0_10 x0_11
  go_wp2_with fail
  refine (TxtM.spec h _ n1 f1 l1 _ n2 f2 l2 _ n3 f3 l3 _ qz (bk_sr T1_2.out B1.out) b1 D1.out (bk_sr T2_2.out B2.out) b2 D2.out (bk_sr T3_2.out B3.out) b3 D3.out).mono ?_
  rintro e w3 ⟨rfl, hl⟩
  rw [HQ.out]
  have L3 := Lib.hid (L2.out.trans (hl.mono L2.out.size))
  have X3 := Lib.hid (X2.out.below hl)
  clear hl L2 X2 T1_2 T2_2 T3_2
  obtain ⟨x0_0, x0_1, x0_2, x0_3, x0_4, x0_5, x0_6, x0_7, x0_8, x0_9, x0_10, x0_11⟩ := X3.out
  go_wp2_with fail
  refine (toMsg_any h A1 n1 c1 l1 A2 n2 c2 l2 A3 n3 c3 l3 _ (S1.out.on L3.out) b1 (S2.out.on L3.out) b2 (S3.out.on L3.out) b3).mono ?_
  rintro e w4 ⟨p1, e1, rp1, p2, e2, rp2, p3, e3, rp3, rfl, hb1, hb2, hb3, -, -, -, hl⟩
  have P1_4 := Lib.hid hb1
  have P2_4 := Lib.hid hb2
  have P3_4 := Lib.hid hb3
  have L4 := Lib.hid (L3.out.trans (hl.mono L3.out.size))
  have X4 := Lib.hid (X3.out.below hl)
  clear hl L3 X3
  clear hb1 hb2 hb3 x0_0 x0_1 x0_2 x0_3 x0_4 x0_5 x0_6 x0_7 x0_8 x0_9 x0_10 x0_11
  have al : Below w4.heap.size w4 (w4.alloc (.cells #[.int .i64 h.id, .bool h.rp, .bool h.au, .bool h.ct, .bool h.wa, .bool h.ca, .int .i64 h.code, .string h.qn, .int .i64 h.qt, .slice (some ⟨p1, 0, none⟩) n1 e1, .slice (some ⟨p2, 0, none⟩) n2 e2, .slice (some ⟨p3, 0, none⟩) n3 e3] 55)) := (Below.refl _ _).alloc (Nat.le_refl _) _
  have Q5 := Lib.hid (mx_new w4 55 h (.slice (some ⟨p1, 0, none⟩) n1 e1) (.slice (some ⟨p2, 0, none⟩) n2 e2) (.slice (some ⟨p3, 0, none⟩) n3 e3))
  have L5 := Lib.hid (L4.out.trans (al.mono L4.out.size))
  have X5 := Lib.hid (X4.out.below al)
  have P1_5 := Lib.hid (P1_4.out.below al P1_4.out.lt)
  have P2_5 := Lib.hid (P2_4.out.below al P2_4.out.lt)
  have P3_5 := Lib.hid (P3_4.out.below al P3_4.out.lt)
  clear al L4 X4 P1_4 P2_4 P3_4
  go_wp2_with fail
  refine (TxtM.impl h _ n1 e1 l1 _ n2 e2 l2 _ n3 e3 l3 _ (HE.out.below L5.out) (HT.out.below L5.out) qz (bk_sr P1_5.out B1.out) b1 D1.out (bk_sr P2_5.out B2.out) b2 D2.out (bk_sr P3_5.out B3.out) b3 D3.out).mono ?_
  rintro e w6 ⟨rfl, hl⟩
  rw [HQ.out]
  generalize w4.heap.size = gq at *
  have L6 := Lib.hid (L5.out.trans (hl.mono L5.out.size))
  have X6 := Lib.hid (X5.out.below hl)
  have P1_6 := Lib.hid (P1_5.out.below hl P1_5.out.lt)
  have P2_6 := Lib.hid (P2_5.out.below hl P2_5.out.lt)
  have P3_6 := Lib.hid (P3_5.out.below hl P3_5.out.lt)
  have Q6 := Lib.hid (Q5.out.below hl)
  clear hl L5 X5 P1_5 P2_5 P3_5 Q5
  have TM : Hid (∀ W : World, (((W.cell? ⟨w.heap.size, 0, none⟩ = some (.int .i64 h.id) ∧ W.cell? ⟨w.heap.size, 1, none⟩ = some (.bool h.rp) ∧ W.cell? ⟨w.heap.size, 2, none⟩ = some (.bool h.au) ∧ W.cell? ⟨w.heap.size, 3, none⟩ = some (.bool h.ct) ∧ W.cell? ⟨w.heap.size, 4, none⟩ = some (.bool h.wa) ∧ W.cell? ⟨w.heap.size, 5, none⟩ = some (.bool h.ca) ∧ W.cell? ⟨w.heap.size, 6, none⟩ = some (.int .i64 h.code) ∧ W.cell? ⟨w.heap.size, 7, none⟩ = some (.string h.qn) ∧ W.cell? ⟨w.heap.size, 8, none⟩ = some (.int .i64 h.qt) ∧ W.cell? ⟨w.heap.size, 9, none⟩ = some (.slice A1 n1 c1) ∧ W.cell? ⟨w.heap.size, 10, none⟩ = some (.slice A2 n2 c2) ∧ W.cell? ⟨w.heap.size, 11, none⟩ = some (.slice A3 n3 c3)) ∧ (W.cell? ⟨gq, 0, none⟩ = some (.int .i64 h.id) ∧ W.cell? ⟨gq, 1, none⟩ = some (.bool h.rp) ∧ W.cell? ⟨gq, 2, none⟩ = some (.bool h.au) ∧ W.cell? ⟨gq, 3, none⟩ = some (.bool h.ct) ∧ W.cell? ⟨gq, 4, none⟩ = some (.bool h.wa) ∧ W.cell? ⟨gq, 5, none⟩ = some (.bool h.ca) ∧ W.cell? ⟨gq, 6, none⟩ = some (.int .i64 h.code) ∧ W.cell? ⟨gq, 7, none⟩ = some (.string h.qn) ∧ W.cell? ⟨gq, 8, none⟩ = some (.int .i64 h.qt) ∧ W.cell? ⟨gq, 9, none⟩ = some (.slice (some ⟨p1, 0, none⟩) n1 e1) ∧ W.cell? ⟨gq, 10, none⟩ = some (.slice (some ⟨p2, 0, none⟩) n2 e2) ∧ W.cell? ⟨gq, 11, none⟩ = some (.slice (some ⟨p3, 0, none⟩) n3 e3))) ∧ Sv w6 W) → Calls Tryd.prog 34 #[.agg #[.int .i64 h.id, .bool h.rp, .bool h.au, .bool h.ct, .bool h.wa, .bool h.ca, .int .i64 h.code, .string h.qn, .int .i64 h.qt, .slice A1 n1 c1, .slice A2 n2 c2, .slice A3 n3 c3]] W (GivesM W h n1 n2 n3 l1 l2 l3)) := fun W hW => toMsg_any h A1 n1 c1 l1 A2 n2 c2 l2 A3 n3 c3 l3 W ((S1.out.on L6.out).on hW.2) b1 ((S2.out.on L6.out).on hW.2) b2 ((S3.out.on L6.out).on hW.2) b3
  have EQ : Hid (∀ (W : World) (t1 f1 : Nat) (q1 : List Value) (t2 f2 : Nat) (q2 : List Value) (t3 f3 : Nat) (q3 : List Value), (((W.cell? ⟨w.heap.size, 0, none⟩ = some (.int .i64 h.id) ∧ W.cell? ⟨w.heap.size, 1, none⟩ = some (.bool h.rp) ∧ W.cell? ⟨w.heap.size, 2, none⟩ = some (.bool h.au) ∧ W.cell? ⟨w.heap.size, 3, none⟩ = some (.bool h.ct) ∧ W.cell? ⟨w.heap.size, 4, none⟩ = some (.bool h.wa) ∧ W.cell? ⟨w.heap.size, 5, none⟩ = some (.bool h.ca) ∧ W.cell? ⟨w.heap.size, 6, none⟩ = some (.int .i64 h.code) ∧ W.cell? ⟨w.heap.size, 7, none⟩ = some (.string h.qn) ∧ W.cell? ⟨w.heap.size, 8, none⟩ = some (.int .i64 h.qt) ∧ W.cell? ⟨w.heap.size, 9, none⟩ = some (.slice A1 n1 c1) ∧ W.cell? ⟨w.heap.size, 10, none⟩ = some (.slice A2 n2 c2) ∧ W.cell? ⟨w.heap.size, 11, none⟩ = some (.slice A3 n3 c3)) ∧ (W.cell? ⟨gq, 0, none⟩ = some (.int .i64 h.id) ∧ W.cell? ⟨gq, 1, none⟩ = some (.bool h.rp) ∧ W.cell? ⟨gq, 2, none⟩ = some (.bool h.au) ∧ W.cell? ⟨gq, 3, none⟩ = some (.bool h.ct) ∧ W.cell? ⟨gq, 4, none⟩ = some (.bool h.wa) ∧ W.cell? ⟨gq, 5, none⟩ = some (.bool h.ca) ∧ W.cell? ⟨gq, 6, none⟩ = some (.int .i64 h.code) ∧ W.cell? ⟨gq, 7, none⟩ = some (.string h.qn) ∧ W.cell? ⟨gq, 8, none⟩ = some (.int .i64 h.qt) ∧ W.cell? ⟨gq, 9, none⟩ = some (.slice (some ⟨p1, 0, none⟩) n1 e1) ∧ W.cell? ⟨gq, 10, none⟩ = some (.slice (some ⟨p2, 0, none⟩) n2 e2) ∧ W.cell? ⟨gq, 11, none⟩ = some (.slice (some ⟨p3, 0, none⟩) n3 e3))) ∧ Sv w6 W) → Bk W t1 25 (fl l1 ++ q1) → Bk W t2 25 (fl l2 ++ q2) → Bk W t3 25 (fl l3 ++ q3) → Calls Tryd.prog 36 #[.agg #[.int .i64 h.id, .bool h.rp, .bool h.au, .bool h.ct, .bool h.wa, .bool h.ca, .int .i64 h.code, .string h.qn, .int .i64 h.qt, .slice (some ⟨p1, 0, none⟩) n1 e1, .slice (some ⟨p2, 0, none⟩) n2 e2, .slice (some ⟨p3, 0, none⟩) n3 e3], .agg #[.int .i64 h.id, .bool h.rp, .bool h.au, .bool h.ct, .bool h.wa, .bool h.ca, .int .i64 h.code, .string h.qn, .int .i64 h.qt, .slice (some ⟨t1, 0, none⟩) n1 f1, .slice (some ⟨t2, 0, none⟩) n2 f2, .slice (some ⟨t3, 0, none⟩) n3 f3]] W fun e w' => e = .returned (.bool true) ∧ Below W.heap.size W w') := fun W t1 f1 q1 t2 f2 q2 t3 f3 q3 hW k1 k2 k3 => eqMsg_same h _ _ n1 e1 f1 l1 _ _ n2 e2 f2 l2 _ _ n3 e3 f3 l3 W (bk_sr (P1_6.out.below hW.2 P1_6.out.lt) B1.out) (bk_sr k1 B1.out) b1 (bk_sr (P2_6.out.below hW.2 P2_6.out.lt) B2.out) (bk_sr k2 B2.out) b2 (bk_sr (P3_6.out.below hW.2 P3_6.out.lt) B3.out) (bk_sr k3 B3.out) b3
  have S0 : (((w6.cell? ⟨w.heap.size, 0, none⟩ = some (.int .i64 h.id) ∧ w6.cell? ⟨w.heap.size, 1, none⟩ = some (.bool h.rp) ∧ w6.cell? ⟨w.heap.size, 2, none⟩ = some (.bool h.au) ∧ w6.cell? ⟨w.heap.size, 3, none⟩ = some (.bool h.ct) ∧ w6.cell? ⟨w.heap.size, 4, none⟩ = some (.bool h.wa) ∧ w6.cell? ⟨w.heap.size, 5, none⟩ = some (.bool h.ca) ∧ w6.cell? ⟨w.heap.size, 6, none⟩ = some (.int .i64 h.code) ∧ w6.cell? ⟨w.heap.size, 7, none⟩ = some (.string h.qn) ∧ w6.cell? ⟨w.heap.size, 8, none⟩ = some (.int .i64 h.qt) ∧ w6.cell? ⟨w.heap.size, 9, none⟩ = some (.slice A1 n1 c1) ∧ w6.cell? ⟨w.heap.size, 10, none⟩ = some (.slice A2 n2 c2) ∧ w6.cell? ⟨w.heap.size, 11, none⟩ = some (.slice A3 n3 c3)) ∧ (w6.cell? ⟨gq, 0, none⟩ = some (.int .i64 h.id) ∧ w6.cell? ⟨gq, 1, none⟩ = some (.bool h.rp) ∧ w6.cell? ⟨gq, 2, none⟩ = some (.bool h.au) ∧ w6.cell? ⟨gq, 3, none⟩ = some (.bool h.ct) ∧ w6.cell? ⟨gq, 4, none⟩ = some (.bool h.wa) ∧ w6.cell? ⟨gq, 5, none⟩ = some (.bool h.ca) ∧ w6.cell? ⟨gq, 6, none⟩ = some (.int .i64 h.code) ∧ w6.cell? ⟨gq, 7, none⟩ = some (.string h.qn) ∧ w6.cell? ⟨gq, 8, none⟩ = some (.int .i64 h.qt) ∧ w6.cell? ⟨gq, 9, none⟩ = some (.slice (some ⟨p1, 0, none⟩) n1 e1) ∧ w6.cell? ⟨gq, 10, none⟩ = some (.slice (some ⟨p2, 0, none⟩) n2 e2) ∧ w6.cell? ⟨gq, 11, none⟩ = some (.slice (some ⟨p3, 0, none⟩) n3 e3))) ∧ Sv w6 w6) := ⟨⟨X6.out, Q6.out⟩, Below.refl _ _⟩
  go_wp2
  go_region_held3 (fun w' => (((w'.cell? ⟨w.heap.size, 0, none⟩ = some (.int .i64 h.id) ∧ w'.cell? ⟨w.heap.size, 1, none⟩ = some (.bool h.rp) ∧ w'.cell? ⟨w.heap.size, 2, none⟩ = some (.bool h.au) ∧ w'.cell? ⟨w.heap.size, 3, none⟩ = some (.bool h.ct) ∧ w'.cell? ⟨w.heap.size, 4, none⟩ = some (.bool h.wa) ∧ w'.cell? ⟨w.heap.size, 5, none⟩ = some (.bool h.ca) ∧ w'.cell? ⟨w.heap.size, 6, none⟩ = some (.int .i64 h.code) ∧ w'.cell? ⟨w.heap.size, 7, none⟩ = some (.string h.qn) ∧ w'.cell? ⟨w.heap.size, 8, none⟩ = some (.int .i64 h.qt) ∧ w'.cell? ⟨w.heap.size, 9, none⟩ = some (.slice A1 n1 c1) ∧ w'.cell? ⟨w.heap.size, 10, none⟩ = some (.slice A2 n2 c2) ∧ w'.cell? ⟨w.heap.size, 11, none⟩ = some (.slice A3 n3 c3)) ∧ (w'.cell? ⟨gq, 0, none⟩ = some (.int .i64 h.id) ∧ w'.cell? ⟨gq, 1, none⟩ = some (.bool h.rp) ∧ w'.cell? ⟨gq, 2, none⟩ = some (.bool h.au) ∧ w'.cell? ⟨gq, 3, none⟩ = some (.bool h.ct) ∧ w'.cell? ⟨gq, 4, none⟩ = some (.bool h.wa) ∧ w'.cell? ⟨gq, 5, none⟩ = some (.bool h.ca) ∧ w'.cell? ⟨gq, 6, none⟩ = some (.int .i64 h.code) ∧ w'.cell? ⟨gq, 7, none⟩ = some (.string h.qn) ∧ w'.cell? ⟨gq, 8, none⟩ = some (.int .i64 h.qt) ∧ w'.cell? ⟨gq, 9, none⟩ = some (.slice (some ⟨p1, 0, none⟩) n1 e1) ∧ w'.cell? ⟨gq, 10, none⟩ = some (.slice (some ⟨p2, 0, none⟩) n2 e2) ∧ w'.cell? ⟨gq, 11, none⟩ = some (.slice (some ⟨p3, 0, none⟩) n3 e3))) ∧ Sv w6 w'))
    (first | with_reducible exact S0 | with_reducible assumption | exact kept2 (by assumption) hl | exact kept2_draw (by assumption) | fail)
    (first
      | (go_at_call 34; (with_reducible refine (TM.out _ (by assumption)).mono ?_); rintro e wt6 ⟨tt1, ff1, qq1, tt2, ff2, qq2, tt3, ff3, qq3, rfl, hb1, hb2, hb3, -, -, -, hl⟩)
      | (go_at_call 36; (with_reducible refine (EQ.out _ _ _ _ _ _ _ _ _ _ (by assumption) hb1 hb2 hb3).mono ?_); rintro e w7 ⟨rfl, hl⟩)
      | fail)
  rename_i hH
  have hz : Below w6.heap.size w6 w7 := hH.2
  clear hH hb1 hb2 hb3 hl S0 TM EQ
  have L7 := Lib.hid (L6.out.trans (hz.mono L6.out.size))
  clear hz L6 X6 P1_6 P2_6 P3_6 Q6
  go_wp2
  go_ret
  exact ⟨rfl, L7.out⟩
end Go.Proofs.YtbjhkhmhmldjoaaDoor.LawMsgText
