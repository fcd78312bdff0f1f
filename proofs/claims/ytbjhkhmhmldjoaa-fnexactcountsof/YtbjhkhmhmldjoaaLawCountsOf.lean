/- The law FnExactCountsOf returns true at every message and turns nothing that was there: CountsOf answers as its model. -/
import Derived.Test.YtbjhkhmhmldjoaaSzM
import Derived.Test.YtbjhkhmhmldjoaaToM
import Derived.Test.YtbjhkhmhmldjoaaEqM
import Derived.Test.YtbjhkhmhmldjoaaCntM
import Derived.Test.YtbjhkhmhmldjoaaRowM
import Derived.Deep.RegionHeld3
namespace Go.Proofs.Ytbjhkhmhmldjoaa.LawCountsOf
open Go.RowKit Go.Proofs.Ytbjhkhmhmldjoaa.Mem Go.Proofs.Ytbjhkhmhmldjoaa.MemR Go.Proofs.Ytbjhkhmhmldjoaa.BoxR Go.Proofs.Ytbjhkhmhmldjoaa.MemM Go.Proofs.Ytbjhkhmhmldjoaa.ResM Go.Proofs.Ytbjhkhmhmldjoaa.RowR Go.Proofs.Ytbjhkhmhmldjoaa.SzM Go.Proofs.Ytbjhkhmhmldjoaa.ToM Go.Proofs.Ytbjhkhmhmldjoaa.EqM

set_option maxRecDepth 100000 in
set_option maxHeartbeats 8000000 in
theorem walk (h : Hd) (A1 : Option Addr) (n1 c1 : Nat) (l1 : List Rec) (A2 : Option Addr) (n2 c2 : Nat) (l2 : List Rec) (A3 : Option Addr) (n3 c3 : Nat) (l3 : List Rec) (w : World) (hq : h.qn.size ≤ 9223372036854775807) (i1 : IsRecs w A1 n1 l1) (i2 : IsRecs w A2 n2 l2) (i3 : IsRecs w A3 n3 l3) :
    Calls Try.prog 6 #[.agg #[.int .i64 h.id, .bool h.rp, .bool h.au, .bool h.ct, .bool h.wa, .bool h.ca, .int .i64 h.code, .string h.qn, .int .i64 h.qt, .slice A1 n1 c1, .slice A2 n2 c2, .slice A3 n3 c3]] w fun e w' => e = .returned (.bool true) ∧ Below w.heap.size w w' := by
  have L0 := Lib.hid ((Below.refl w.heap.size w).alloc (Nat.le_refl _) (.cells #[.int .i64 h.id, .bool h.rp, .bool h.au, .bool h.ct, .bool h.wa, .bool h.ca, .int .i64 h.code, .string h.qn, .int .i64 h.qt, .slice A1 n1 c1, .slice A2 n2 c2, .slice A3 n3 c3] 26))
  have X0 := Lib.hid (mx_new w 26 h (.slice A1 n1 c1) (.slice A2 n2 c2) (.slice A3 n3 c3))
  have S0 := Lib.hid (i1.1.on L0.out)
  have T0 := Lib.hid (i2.1.on L0.out)
  have U0 := Lib.hid (i3.1.on L0.out)
  have m1 := i1.2.1
  have m2 := i2.2.1
  have m3 := i3.2.1
  have Z1 : Hid (Sms l1) := i1.2.2
  have Z2 : Hid (Sms l2) := i2.2.2
  have Z3 : Hid (Sms l3) := i3.2.2
  clear i1 i2 i3
  go_enter Try.func6, Try.ntmps6
  go_wp2_with fail
  refine (szMsg_any h A1 n1 c1 l1 A2 n2 c2 l2 A3 n3 c3 l3 1048576 _ (by omega) (by omega) hq S0.out m1 Z1.out T0.out m2 Z2.out U0.out m3 Z3.out).mono ?_
  rintro e w1 ⟨y, rfl, hy0, hy1, hy, hl⟩
  have Y := Lib.hid hy
  have L1 := Lib.hid (L0.out.trans (hl.mono L0.out.size))
  have X1 := Lib.hid (X0.out.below hl)
  have S1 := Lib.hid (S0.out.on hl)
  have T1 := Lib.hid (T0.out.on hl)
  have U1 := Lib.hid (U0.out.on hl)
  clear hl L0 X0 S0 T0 U0 hy
  by_cases neg : y < 0
  · go_wp2
    go_ret
    exact ⟨rfl, L1.out⟩
  have bz : mz h l1 l2 l3 ≤ 1048576 := by have := Y.out (by omega); omega
  have BZ := Lib.hid bz
  clear bz Y
  have b1 : n1 ≤ 1048576 := by have := BZ.out; have := S1.out.1; unfold mz at *; omega
  have b2 : n2 ≤ 1048576 := by have := BZ.out; have := T1.out.1; unfold mz at *; omega
  have b3 : n3 ≤ 1048576 := by have := BZ.out; have := U1.out.1; unfold mz at *; omega
  obtain ⟨x0, x1, x2, x3, x4, x5, x6, x7, x8, x9, x10, x11⟩ := X1.out
  go_wp2_with fail
  refine (toMsg_any h A1 n1 c1 l1 A2 n2 c2 l2 A3 n3 c3 l3 w1 S1.out (by omega) T1.out (by omega) U1.out (by omega)).mono ?_
  rintro e w2 ⟨g1, d1, rg1, g2, d2, rg2, g3, d3, rg3, rfl, hb1, hb2, hb3, hg, h12, h23, hl⟩
  have GA2 := Lib.hid hb1
  have GB2 := Lib.hid hb2
  have GC2 := Lib.hid hb3
  have L2 := Lib.hid (L1.out.trans (hl.mono L1.out.size))
  have X2 := Lib.hid (X1.out.below hl)
  have S2 := Lib.hid (S1.out.on hl)
  have T2 := Lib.hid (T1.out.on hl)
  have U2 := Lib.hid (U1.out.on hl)
  clear hl L1 X1 S1 T1 U1 hb1 hb2 hb3 hg h12 h23 x0 x1 x2 x3 x4 x5 x6 x7 x8 x9 x10 x11
  go_wp2_with fail
  refine (CntM.spec h _ _ _ n1 d1 n2 d2 n3 d3 w2 (by omega) (by omega) (by omega)).mono ?_
  rintro e w3 ⟨rfl, hl⟩
  have L3 := Lib.hid (L2.out.trans (hl.mono L2.out.size))
  have X3 := Lib.hid (X2.out.below hl)
  have S3 := Lib.hid (S2.out.on hl)
  have T3 := Lib.hid (T2.out.on hl)
  have U3 := Lib.hid (U2.out.on hl)
  clear hl L2 X2 S2 T2 U2 GA2 GB2 GC2 
  obtain ⟨x0, x1, x2, x3, x4, x5, x6, x7, x8, x9, x10, x11⟩ := X3.out
  go_wp2_with fail
  refine (toMsg_any h A1 n1 c1 l1 A2 n2 c2 l2 A3 n3 c3 l3 w3 S3.out (by omega) T3.out (by omega) U3.out (by omega)).mono ?_
  rintro e w4 ⟨p1, e1, rp1, p2, e2, rp2, p3, e3, rp3, rfl, hb1, hb2, hb3, hg, h12, h23, hl⟩
  have PA4 := Lib.hid hb1
  have PB4 := Lib.hid hb2
  have PC4 := Lib.hid hb3
  have L4 := Lib.hid (L3.out.trans (hl.mono L3.out.size))
  have X4 := Lib.hid (X3.out.below hl)
  have S4 := Lib.hid (S3.out.on hl)
  have T4 := Lib.hid (T3.out.on hl)
  have U4 := Lib.hid (U3.out.on hl)
  clear hl L3 X3 S3 T3 U3 hb1 hb2 hb3 hg h12 h23 x0 x1 x2 x3 x4 x5 x6 x7 x8 x9 x10 x11
  have L4' := Lib.hid (L4.out.alloc L4.out.size (.cells #[.int .i64 h.id, .bool h.rp, .bool h.au, .bool h.ct, .bool h.wa, .bool h.ca, .int .i64 h.code, .string h.qn, .int .i64 h.qt, .slice (some ⟨p1, 0, none⟩) n1 e1, .slice (some ⟨p2, 0, none⟩) n2 e2, .slice (some ⟨p3, 0, none⟩) n3 e3] 32))
  have PX := Lib.hid (mx_new w4 32 h (.slice (some ⟨p1, 0, none⟩) n1 e1) (.slice (some ⟨p2, 0, none⟩) n2 e2) (.slice (some ⟨p3, 0, none⟩) n3 e3))
  have al : Below w4.heap.size w4 (w4.alloc (.cells #[.int .i64 h.id, .bool h.rp, .bool h.au, .bool h.ct, .bool h.wa, .bool h.ca, .int .i64 h.code, .string h.qn, .int .i64 h.qt, .slice (some ⟨p1, 0, none⟩) n1 e1, .slice (some ⟨p2, 0, none⟩) n2 e2, .slice (some ⟨p3, 0, none⟩) n3 e3] 32)) := (Below.refl _ _).alloc (Nat.le_refl _) _
  have X4' := Lib.hid (X4.out.below al)
  have S4' := Lib.hid (S4.out.on al)
  have T4' := Lib.hid (T4.out.on al)
  have U4' := Lib.hid (U4.out.on al)
  have PA4' := Lib.hid (PA4.out.below al PA4.out.lt)
  have PB4' := Lib.hid (PB4.out.below al PB4.out.lt)
  have PC4' := Lib.hid (PC4.out.below al PC4.out.lt)
  clear al X4 S4 T4 U4 PA4 PB4 PC4 L4
  go_wp2_with fail
  refine (CntM.impl h _ _ _ n1 e1 n2 e2 n3 e3 _ (by omega) (by omega) (by omega)).mono ?_
  rintro e w5 ⟨rfl, hl⟩
  have L5 := Lib.hid (L4'.out.trans (hl.mono L4'.out.size))
  have Q5 := Lib.hid (PX.out.below hl)
  have X5 := Lib.hid (X4'.out.below hl)
  have S5 := Lib.hid (S4'.out.on hl)
  have T5 := Lib.hid (T4'.out.on hl)
  have U5 := Lib.hid (U4'.out.on hl)
  have PA5 := Lib.hid (PA4'.out.below hl PA4'.out.lt)
  have PB5 := Lib.hid (PB4'.out.below hl PB4'.out.lt)
  have PC5 := Lib.hid (PC4'.out.below hl PC4'.out.lt)
  clear hl PX X4' S4' T4' U4' PA4' PB4' PC4' L4'
  generalize w4.heap.size = gx at *
  have hne : (((n1 : Int) + (n2 : Int) + (n3 : Int)) != ((n1 : Int) + (n2 : Int) + (n3 : Int))) = false := by simp
  have TM : Hid (∀ W : World, (((W.cell? ⟨w.heap.size, 0, none⟩ = some (.int .i64 h.id) ∧ W.cell? ⟨w.heap.size, 1, none⟩ = some (.bool h.rp) ∧ W.cell? ⟨w.heap.size, 2, none⟩ = some (.bool h.au) ∧ W.cell? ⟨w.heap.size, 3, none⟩ = some (.bool h.ct) ∧ W.cell? ⟨w.heap.size, 4, none⟩ = some (.bool h.wa) ∧ W.cell? ⟨w.heap.size, 5, none⟩ = some (.bool h.ca) ∧ W.cell? ⟨w.heap.size, 6, none⟩ = some (.int .i64 h.code) ∧ W.cell? ⟨w.heap.size, 7, none⟩ = some (.string h.qn) ∧ W.cell? ⟨w.heap.size, 8, none⟩ = some (.int .i64 h.qt) ∧ W.cell? ⟨w.heap.size, 9, none⟩ = some (.slice A1 n1 c1) ∧ W.cell? ⟨w.heap.size, 10, none⟩ = some (.slice A2 n2 c2) ∧ W.cell? ⟨w.heap.size, 11, none⟩ = some (.slice A3 n3 c3)) ∧ (W.cell? ⟨gx, 0, none⟩ = some (.int .i64 h.id) ∧ W.cell? ⟨gx, 1, none⟩ = some (.bool h.rp) ∧ W.cell? ⟨gx, 2, none⟩ = some (.bool h.au) ∧ W.cell? ⟨gx, 3, none⟩ = some (.bool h.ct) ∧ W.cell? ⟨gx, 4, none⟩ = some (.bool h.wa) ∧ W.cell? ⟨gx, 5, none⟩ = some (.bool h.ca) ∧ W.cell? ⟨gx, 6, none⟩ = some (.int .i64 h.code) ∧ W.cell? ⟨gx, 7, none⟩ = some (.string h.qn) ∧ W.cell? ⟨gx, 8, none⟩ = some (.int .i64 h.qt) ∧ W.cell? ⟨gx, 9, none⟩ = some (.slice (some ⟨p1, 0, none⟩) n1 e1) ∧ W.cell? ⟨gx, 10, none⟩ = some (.slice (some ⟨p2, 0, none⟩) n2 e2) ∧ W.cell? ⟨gx, 11, none⟩ = some (.slice (some ⟨p3, 0, none⟩) n3 e3))) ∧ Sv w5 W) → Calls Try.prog 9 #[.agg #[.int .i64 h.id, .bool h.rp, .bool h.au, .bool h.ct, .bool h.wa, .bool h.ca, .int .i64 h.code, .string h.qn, .int .i64 h.qt, .slice A1 n1 c1, .slice A2 n2 c2, .slice A3 n3 c3]] W (GivesM W h n1 n2 n3 l1 l2 l3)) := fun W hW => toMsg_any h A1 n1 c1 l1 A2 n2 c2 l2 A3 n3 c3 l3 W (S5.out.on hW.2) (by omega) (T5.out.on hW.2) (by omega) (U5.out.on hW.2) (by omega)
  have EQ : Hid (∀ (W : World) (t1 f1 : Nat) (q1 : List Value) (t2 f2 : Nat) (q2 : List Value) (t3 f3 : Nat) (q3 : List Value), (((W.cell? ⟨w.heap.size, 0, none⟩ = some (.int .i64 h.id) ∧ W.cell? ⟨w.heap.size, 1, none⟩ = some (.bool h.rp) ∧ W.cell? ⟨w.heap.size, 2, none⟩ = some (.bool h.au) ∧ W.cell? ⟨w.heap.size, 3, none⟩ = some (.bool h.ct) ∧ W.cell? ⟨w.heap.size, 4, none⟩ = some (.bool h.wa) ∧ W.cell? ⟨w.heap.size, 5, none⟩ = some (.bool h.ca) ∧ W.cell? ⟨w.heap.size, 6, none⟩ = some (.int .i64 h.code) ∧ W.cell? ⟨w.heap.size, 7, none⟩ = some (.string h.qn) ∧ W.cell? ⟨w.heap.size, 8, none⟩ = some (.int .i64 h.qt) ∧ W.cell? ⟨w.heap.size, 9, none⟩ = some (.slice A1 n1 c1) ∧ W.cell? ⟨w.heap.size, 10, none⟩ = some (.slice A2 n2 c2) ∧ W.cell? ⟨w.heap.size, 11, none⟩ = some (.slice A3 n3 c3)) ∧ (W.cell? ⟨gx, 0, none⟩ = some (.int .i64 h.id) ∧ W.cell? ⟨gx, 1, none⟩ = some (.bool h.rp) ∧ W.cell? ⟨gx, 2, none⟩ = some (.bool h.au) ∧ W.cell? ⟨gx, 3, none⟩ = some (.bool h.ct) ∧ W.cell? ⟨gx, 4, none⟩ = some (.bool h.wa) ∧ W.cell? ⟨gx, 5, none⟩ = some (.bool h.ca) ∧ W.cell? ⟨gx, 6, none⟩ = some (.int .i64 h.code) ∧ W.cell? ⟨gx, 7, none⟩ = some (.string h.qn) ∧ W.cell? ⟨gx, 8, none⟩ = some (.int .i64 h.qt) ∧ W.cell? ⟨gx, 9, none⟩ = some (.slice (some ⟨p1, 0, none⟩) n1 e1) ∧ W.cell? ⟨gx, 10, none⟩ = some (.slice (some ⟨p2, 0, none⟩) n2 e2) ∧ W.cell? ⟨gx, 11, none⟩ = some (.slice (some ⟨p3, 0, none⟩) n3 e3))) ∧ Sv w5 W) → Bk W t1 59 (fl l1 ++ q1) → Bk W t2 59 (fl l2 ++ q2) → Bk W t3 59 (fl l3 ++ q3) → Calls Try.prog 11 #[.agg #[.int .i64 h.id, .bool h.rp, .bool h.au, .bool h.ct, .bool h.wa, .bool h.ca, .int .i64 h.code, .string h.qn, .int .i64 h.qt, .slice (some ⟨p1, 0, none⟩) n1 e1, .slice (some ⟨p2, 0, none⟩) n2 e2, .slice (some ⟨p3, 0, none⟩) n3 e3], .agg #[.int .i64 h.id, .bool h.rp, .bool h.au, .bool h.ct, .bool h.wa, .bool h.ca, .int .i64 h.code, .string h.qn, .int .i64 h.qt, .slice (some ⟨t1, 0, none⟩) n1 f1, .slice (some ⟨t2, 0, none⟩) n2 f2, .slice (some ⟨t3, 0, none⟩) n3 f3]] W fun e w' => e = .returned (.bool true) ∧ Below W.heap.size W w') := fun W t1 f1 q1 t2 f2 q2 t3 f3 q3 hW k1 k2 k3 => eqMsg_same h _ _ n1 e1 f1 l1 _ _ n2 e2 f2 l2 _ _ n3 e3 f3 l3 W (bk_sr (PA5.out.below hW.2 PA5.out.lt) S5.out.1) (bk_sr k1 S5.out.1) (by omega) (bk_sr (PB5.out.below hW.2 PB5.out.lt) T5.out.1) (bk_sr k2 T5.out.1) (by omega) (bk_sr (PC5.out.below hW.2 PC5.out.lt) U5.out.1) (bk_sr k3 U5.out.1) (by omega)
  have S0 : (((w5.cell? ⟨w.heap.size, 0, none⟩ = some (.int .i64 h.id) ∧ w5.cell? ⟨w.heap.size, 1, none⟩ = some (.bool h.rp) ∧ w5.cell? ⟨w.heap.size, 2, none⟩ = some (.bool h.au) ∧ w5.cell? ⟨w.heap.size, 3, none⟩ = some (.bool h.ct) ∧ w5.cell? ⟨w.heap.size, 4, none⟩ = some (.bool h.wa) ∧ w5.cell? ⟨w.heap.size, 5, none⟩ = some (.bool h.ca) ∧ w5.cell? ⟨w.heap.size, 6, none⟩ = some (.int .i64 h.code) ∧ w5.cell? ⟨w.heap.size, 7, none⟩ = some (.string h.qn) ∧ w5.cell? ⟨w.heap.size, 8, none⟩ = some (.int .i64 h.qt) ∧ w5.cell? ⟨w.heap.size, 9, none⟩ = some (.slice A1 n1 c1) ∧ w5.cell? ⟨w.heap.size, 10, none⟩ = some (.slice A2 n2 c2) ∧ w5.cell? ⟨w.heap.size, 11, none⟩ = some (.slice A3 n3 c3)) ∧ (w5.cell? ⟨gx, 0, none⟩ = some (.int .i64 h.id) ∧ w5.cell? ⟨gx, 1, none⟩ = some (.bool h.rp) ∧ w5.cell? ⟨gx, 2, none⟩ = some (.bool h.au) ∧ w5.cell? ⟨gx, 3, none⟩ = some (.bool h.ct) ∧ w5.cell? ⟨gx, 4, none⟩ = some (.bool h.wa) ∧ w5.cell? ⟨gx, 5, none⟩ = some (.bool h.ca) ∧ w5.cell? ⟨gx, 6, none⟩ = some (.int .i64 h.code) ∧ w5.cell? ⟨gx, 7, none⟩ = some (.string h.qn) ∧ w5.cell? ⟨gx, 8, none⟩ = some (.int .i64 h.qt) ∧ w5.cell? ⟨gx, 9, none⟩ = some (.slice (some ⟨p1, 0, none⟩) n1 e1) ∧ w5.cell? ⟨gx, 10, none⟩ = some (.slice (some ⟨p2, 0, none⟩) n2 e2) ∧ w5.cell? ⟨gx, 11, none⟩ = some (.slice (some ⟨p3, 0, none⟩) n3 e3))) ∧ Sv w5 w5) := ⟨⟨X5.out, Q5.out⟩, Below.refl _ _⟩
  go_wp2
  go_region_held3 (fun w' => (((w'.cell? ⟨w.heap.size, 0, none⟩ = some (.int .i64 h.id) ∧ w'.cell? ⟨w.heap.size, 1, none⟩ = some (.bool h.rp) ∧ w'.cell? ⟨w.heap.size, 2, none⟩ = some (.bool h.au) ∧ w'.cell? ⟨w.heap.size, 3, none⟩ = some (.bool h.ct) ∧ w'.cell? ⟨w.heap.size, 4, none⟩ = some (.bool h.wa) ∧ w'.cell? ⟨w.heap.size, 5, none⟩ = some (.bool h.ca) ∧ w'.cell? ⟨w.heap.size, 6, none⟩ = some (.int .i64 h.code) ∧ w'.cell? ⟨w.heap.size, 7, none⟩ = some (.string h.qn) ∧ w'.cell? ⟨w.heap.size, 8, none⟩ = some (.int .i64 h.qt) ∧ w'.cell? ⟨w.heap.size, 9, none⟩ = some (.slice A1 n1 c1) ∧ w'.cell? ⟨w.heap.size, 10, none⟩ = some (.slice A2 n2 c2) ∧ w'.cell? ⟨w.heap.size, 11, none⟩ = some (.slice A3 n3 c3)) ∧ (w'.cell? ⟨gx, 0, none⟩ = some (.int .i64 h.id) ∧ w'.cell? ⟨gx, 1, none⟩ = some (.bool h.rp) ∧ w'.cell? ⟨gx, 2, none⟩ = some (.bool h.au) ∧ w'.cell? ⟨gx, 3, none⟩ = some (.bool h.ct) ∧ w'.cell? ⟨gx, 4, none⟩ = some (.bool h.wa) ∧ w'.cell? ⟨gx, 5, none⟩ = some (.bool h.ca) ∧ w'.cell? ⟨gx, 6, none⟩ = some (.int .i64 h.code) ∧ w'.cell? ⟨gx, 7, none⟩ = some (.string h.qn) ∧ w'.cell? ⟨gx, 8, none⟩ = some (.int .i64 h.qt) ∧ w'.cell? ⟨gx, 9, none⟩ = some (.slice (some ⟨p1, 0, none⟩) n1 e1) ∧ w'.cell? ⟨gx, 10, none⟩ = some (.slice (some ⟨p2, 0, none⟩) n2 e2) ∧ w'.cell? ⟨gx, 11, none⟩ = some (.slice (some ⟨p3, 0, none⟩) n3 e3))) ∧ Sv w5 w'))
    (first | with_reducible exact S0 | with_reducible assumption | exact kept2 (by assumption) hl | exact kept2_draw (by assumption) | fail)
    (first
      | (go_at_call 9; (with_reducible refine (TM.out _ (by assumption)).mono ?_); rintro e wt5 ⟨t1, f1, q1, t2, f2, q2, t3, f3, q3, rfl, hb1, hb2, hb3, -, -, -, hl⟩)
      | (go_at_call 11; (with_reducible refine (EQ.out _ _ _ _ _ _ _ _ _ _ (by assumption) hb1 hb2 hb3).mono ?_); rintro e w6 ⟨rfl, hl⟩)
      | fail)
  rename_i hH
  have hz : Below w5.heap.size w5 w6 := hH.2
  clear hH hb1 hb2 hb3 hl S0 TM EQ
  have L6 := Lib.hid (L5.out.trans (hz.mono L5.out.size))
  have X6 := Lib.hid (X5.out.below hz)
  have S6 := Lib.hid (S5.out.on hz)
  have T6 := Lib.hid (T5.out.on hz)
  have U6 := Lib.hid (U5.out.on hz)
  have PA6 := Lib.hid (PA5.out.below hz PA5.out.lt)
  have PB6 := Lib.hid (PB5.out.below hz PB5.out.lt)
  have PC6 := Lib.hid (PC5.out.below hz PC5.out.lt)
  have Q6 := Lib.hid (Q5.out.below hz)
  clear hz L5 X5 S5 T5 U5 PA5 PB5 PC5 Q5
  go_wp2
  go_ret
  exact ⟨rfl, L6.out⟩
end Go.Proofs.Ytbjhkhmhmldjoaa.LawCountsOf
