/- The law FnExactSameMsg returns true at every two messages and turns nothing that was there: SameMsg answers as its model. -/
import Derived.Test.YtbjhkhmhmldjoaaSamS
import Derived.Test.YtbjhkhmhmldjoaaSamN
import Derived.Test.YtbjhkhmhmldjoaaSzM
import Derived.Test.YtbjhkhmhmldjoaaToM
import Derived.Test.YtbjhkhmhmldjoaaEqM
import Derived.Test.YtbjhkhmhmldjoaaRowM
import Derived.Deep.RegionHeld3
namespace Go.Proofs.Ytbjhkhmhmldjoaa.LawSameMsg
open Go.RowKit Go.Proofs.Ytbjhkhmhmldjoaa.Mem Go.Proofs.Ytbjhkhmhmldjoaa.MemR Go.Proofs.Ytbjhkhmhmldjoaa.BoxR Go.Proofs.Ytbjhkhmhmldjoaa.MemM Go.Proofs.Ytbjhkhmhmldjoaa.ResM Go.Proofs.Ytbjhkhmhmldjoaa.RowR Go.Proofs.Ytbjhkhmhmldjoaa.SzM Go.Proofs.Ytbjhkhmhmldjoaa.ToM Go.Proofs.Ytbjhkhmhmldjoaa.EqM Go.Proofs.Ytbjhkhmhmldjoaa.SamM

set_option maxRecDepth 100000 in
set_option maxHeartbeats 16000000 in
theorem walk (h : Hd) (A1 : Option Addr) (n1 c1 : Nat) (l1 : List Rec) (A2 : Option Addr) (n2 c2 : Nat) (l2 : List Rec) (A3 : Option Addr) (n3 c3 : Nat) (l3 : List Rec) (k : Hd) (A1' : Option Addr) (n1' c1' : Nat) (l1' : List Rec) (A2' : Option Addr) (n2' c2' : Nat) (l2' : List Rec) (A3' : Option Addr) (n3' c3' : Nat) (l3' : List Rec) (w : World)
    (hq : h.qn.size ≤ 9223372036854775807) (i1 : IsRecs w A1 n1 l1) (i2 : IsRecs w A2 n2 l2) (i3 : IsRecs w A3 n3 l3) (hq' : k.qn.size ≤ 9223372036854775807) (i1' : IsRecs w A1' n1' l1') (i2' : IsRecs w A2' n2' l2') (i3' : IsRecs w A3' n3' l3') :
    Calls Try.prog 3 #[.agg #[.int .i64 h.id, .bool h.rp, .bool h.au, .bool h.ct, .bool h.wa, .bool h.ca, .int .i64 h.code, .string h.qn, .int .i64 h.qt, .slice A1 n1 c1, .slice A2 n2 c2, .slice A3 n3 c3], .agg #[.int .i64 k.id, .bool k.rp, .bool k.au, .bool k.ct, .bool k.wa, .bool k.ca, .int .i64 k.code, .string k.qn, .int .i64 k.qt, .slice A1' n1' c1', .slice A2' n2' c2', .slice A3' n3' c3']] w fun e w' => e = .returned (.bool true) ∧ Below w.heap.size w w' := by
  have L0 := Lib.hid (((Below.refl w.heap.size w).alloc (Nat.le_refl _) (.cells #[.int .i64 h.id, .bool h.rp, .bool h.au, .bool h.ct, .bool h.wa, .bool h.ca, .int .i64 h.code, .string h.qn, .int .i64 h.qt, .slice A1 n1 c1, .slice A2 n2 c2, .slice A3 n3 c3] 26)).alloc (by simp) (.cells #[.int .i64 k.id, .bool k.rp, .bool k.au, .bool k.ct, .bool k.wa, .bool k.ca, .int .i64 k.code, .string k.qn, .int .i64 k.qt, .slice A1' n1' c1', .slice A2' n2' c2', .slice A3' n3' c3'] 26))
  have X0 := Lib.hid ((mx_new w 26 h (.slice A1 n1 c1) (.slice A2 n2 c2) (.slice A3 n3 c3)).alloc (.cells #[.int .i64 k.id, .bool k.rp, .bool k.au, .bool k.ct, .bool k.wa, .bool k.ca, .int .i64 k.code, .string k.qn, .int .i64 k.qt, .slice A1' n1' c1', .slice A2' n2' c2', .slice A3' n3' c3'] 26))
  have Y0 := Lib.hid (mx_of (h := k) (x := .slice A1' n1' c1') (y := .slice A2' n2' c2') (z := .slice A3' n3' c3') (at2 (w := w) (a := .cells #[.int .i64 h.id, .bool h.rp, .bool h.au, .bool h.ct, .bool h.wa, .bool h.ca, .int .i64 h.code, .string h.qn, .int .i64 h.qt, .slice A1 n1 c1, .slice A2 n2 c2, .slice A3 n3 c3] 26) (cs := #[.int .i64 k.id, .bool k.rp, .bool k.au, .bool k.ct, .bool k.wa, .bool k.ca, .int .i64 k.code, .string k.qn, .int .i64 k.qt, .slice A1' n1' c1', .slice A2' n2' c2', .slice A3' n3' c3']) (t := 26)))
  have S1 := Lib.hid i1.1
  have m1 := i1.2.1
  have Z1 : Hid (Sms l1) := i1.2.2
  have B1 := Lib.hid i1.1.1
  have S2 := Lib.hid i2.1
  have m2 := i2.2.1
  have Z2 : Hid (Sms l2) := i2.2.2
  have B2 := Lib.hid i2.1.1
  have S3 := Lib.hid i3.1
  have m3 := i3.2.1
  have Z3 : Hid (Sms l3) := i3.2.2
  have B3 := Lib.hid i3.1.1
  have S1' := Lib.hid i1'.1
  have m1' := i1'.2.1
  have Z1' : Hid (Sms l1') := i1'.2.2
  have B1' := Lib.hid i1'.1.1
  have S2' := Lib.hid i2'.1
  have m2' := i2'.2.1
  have Z2' : Hid (Sms l2') := i2'.2.2
  have B2' := Lib.hid i2'.1.1
  have S3' := Lib.hid i3'.1
  have m3' := i3'.2.1
  have Z3' : Hid (Sms l3') := i3'.2.2
  have B3' := Lib.hid i3'.1.1
  clear i1 i2 i3 i1' i2' i3'
  go_enter Try.func3, Try.ntmps3
  go_wp2_with fail
  refine (szMsg_any h A1 n1 c1 l1 A2 n2 c2 l2 A3 n3 c3 l3 1048576 _ (by omega) (by omega) hq (S1.out.on L0.out) m1 Z1.out (S2.out.on L0.out) m2 Z2.out (S3.out.on L0.out) m3 Z3.out).mono ?_
  rintro e w1 ⟨y, rfl, hy0, hy1, hy, hl⟩
  have YY := Lib.hid hy
  have L1 := Lib.hid (L0.out.trans (hl.mono L0.out.size))
  have X1 := Lib.hid (X0.out.below hl)
  have Y1 := Lib.hid (Y0.out.below hl)
  clear hl L0 X0 Y0
  clear hy 
  by_cases negy : y < 0
  · go_wp2
    go_ret
    exact ⟨rfl, L1.out⟩
  obtain ⟨x0_0, x0_1, x0_2, x0_3, x0_4, x0_5, x0_6, x0_7, x0_8, x0_9, x0_10, x0_11⟩ := Y1.out
  go_wp2_with fail
  refine (szMsg_any k A1' n1' c1' l1' A2' n2' c2' l2' A3' n3' c3' l3' y _ (by omega) (by omega) hq' (S1'.out.on L1.out) m1' Z1'.out (S2'.out.on L1.out) m2' Z2'.out (S3'.out.on L1.out) m3' Z3'.out).mono ?_
  rintro e w2 ⟨z, rfl, hz0, hz1, hz, hl⟩
  have ZZ := Lib.hid hz
  have L2 := Lib.hid (L1.out.trans (hl.mono L1.out.size))
  have X2 := Lib.hid (X1.out.below hl)
  have Y2 := Lib.hid (Y1.out.below hl)
  clear hl L1 X1 Y1
  clear hz x0_0 x0_1 x0_2 x0_3 x0_4 x0_5 x0_6 x0_7 x0_8 x0_9 x0_10 x0_11
  by_cases negz : z < 0
  · go_wp2
    go_ret
    exact ⟨rfl, L2.out⟩
  have bz : mz h l1 l2 l3 ≤ 1048576 := by have := YY.out (by omega); omega
  have bz' : mz k l1' l2' l3' ≤ 1048576 := by have := ZZ.out (by omega); omega
  have b1 : n1 ≤ 400000000 := by have := B1.out; unfold mz at *; omega
  have b2 : n2 ≤ 400000000 := by have := B2.out; unfold mz at *; omega
  have b3 : n3 ≤ 400000000 := by have := B3.out; unfold mz at *; omega
  have b1' : n1' ≤ 400000000 := by have := B1'.out; unfold mz at *; omega
  have b2' : n2' ≤ 400000000 := by have := B2'.out; unfold mz at *; omega
  have b3' : n3' ≤ 400000000 := by have := B3'.out; unfold mz at *; omega
  clear bz bz' YY ZZ
  obtain ⟨q, hqq⟩ : ∃ q, smm h k l1 l2 l3 l1' l2' l3' = q := ⟨_, rfl⟩
  have HQ := Lib.hid hqq
  clear hqq
  have TA : Hid (∀ W : World, (((W.cell? ⟨w.heap.size, 0, none⟩ = some (.int .i64 h.id) ∧ W.cell? ⟨w.heap.size, 1, none⟩ = some (.bool h.rp) ∧ W.cell? ⟨w.heap.size, 2, none⟩ = some (.bool h.au) ∧ W.cell? ⟨w.heap.size, 3, none⟩ = some (.bool h.ct) ∧ W.cell? ⟨w.heap.size, 4, none⟩ = some (.bool h.wa) ∧ W.cell? ⟨w.heap.size, 5, none⟩ = some (.bool h.ca) ∧ W.cell? ⟨w.heap.size, 6, none⟩ = some (.int .i64 h.code) ∧ W.cell? ⟨w.heap.size, 7, none⟩ = some (.string h.qn) ∧ W.cell? ⟨w.heap.size, 8, none⟩ = some (.int .i64 h.qt) ∧ W.cell? ⟨w.heap.size, 9, none⟩ = some (.slice A1 n1 c1) ∧ W.cell? ⟨w.heap.size, 10, none⟩ = some (.slice A2 n2 c2) ∧ W.cell? ⟨w.heap.size, 11, none⟩ = some (.slice A3 n3 c3)) ∧ (W.cell? ⟨(w.heap.size + 1), 0, none⟩ = some (.int .i64 k.id) ∧ W.cell? ⟨(w.heap.size + 1), 1, none⟩ = some (.bool k.rp) ∧ W.cell? ⟨(w.heap.size + 1), 2, none⟩ = some (.bool k.au) ∧ W.cell? ⟨(w.heap.size + 1), 3, none⟩ = some (.bool k.ct) ∧ W.cell? ⟨(w.heap.size + 1), 4, none⟩ = some (.bool k.wa) ∧ W.cell? ⟨(w.heap.size + 1), 5, none⟩ = some (.bool k.ca) ∧ W.cell? ⟨(w.heap.size + 1), 6, none⟩ = some (.int .i64 k.code) ∧ W.cell? ⟨(w.heap.size + 1), 7, none⟩ = some (.string k.qn) ∧ W.cell? ⟨(w.heap.size + 1), 8, none⟩ = some (.int .i64 k.qt) ∧ W.cell? ⟨(w.heap.size + 1), 9, none⟩ = some (.slice A1' n1' c1') ∧ W.cell? ⟨(w.heap.size + 1), 10, none⟩ = some (.slice A2' n2' c2') ∧ W.cell? ⟨(w.heap.size + 1), 11, none⟩ = some (.slice A3' n3' c3'))) ∧ Sv w2 W) → Calls Try.prog 9 #[.agg #[.int .i64 h.id, .bool h.rp, .bool h.au, .bool h.ct, .bool h.wa, .bool h.ca, .int .i64 h.code, .string h.qn, .int .i64 h.qt, .slice A1 n1 c1, .slice A2 n2 c2, .slice A3 n3 c3]] W (GivesM W h n1 n2 n3 l1 l2 l3)) := fun W hW => toMsg_any h A1 n1 c1 l1 A2 n2 c2 l2 A3 n3 c3 l3 W  ((S1.out.on L2.out).on hW.2) b1 ((S2.out.on L2.out).on hW.2) b2 ((S3.out.on L2.out).on hW.2) b3
  have TB : Hid (∀ W : World, (((W.cell? ⟨w.heap.size, 0, none⟩ = some (.int .i64 h.id) ∧ W.cell? ⟨w.heap.size, 1, none⟩ = some (.bool h.rp) ∧ W.cell? ⟨w.heap.size, 2, none⟩ = some (.bool h.au) ∧ W.cell? ⟨w.heap.size, 3, none⟩ = some (.bool h.ct) ∧ W.cell? ⟨w.heap.size, 4, none⟩ = some (.bool h.wa) ∧ W.cell? ⟨w.heap.size, 5, none⟩ = some (.bool h.ca) ∧ W.cell? ⟨w.heap.size, 6, none⟩ = some (.int .i64 h.code) ∧ W.cell? ⟨w.heap.size, 7, none⟩ = some (.string h.qn) ∧ W.cell? ⟨w.heap.size, 8, none⟩ = some (.int .i64 h.qt) ∧ W.cell? ⟨w.heap.size, 9, none⟩ = some (.slice A1 n1 c1) ∧ W.cell? ⟨w.heap.size, 10, none⟩ = some (.slice A2 n2 c2) ∧ W.cell? ⟨w.heap.size, 11, none⟩ = some (.slice A3 n3 c3)) ∧ (W.cell? ⟨(w.heap.size + 1), 0, none⟩ = some (.int .i64 k.id) ∧ W.cell? ⟨(w.heap.size + 1), 1, none⟩ = some (.bool k.rp) ∧ W.cell? ⟨(w.heap.size + 1), 2, none⟩ = some (.bool k.au) ∧ W.cell? ⟨(w.heap.size + 1), 3, none⟩ = some (.bool k.ct) ∧ W.cell? ⟨(w.heap.size + 1), 4, none⟩ = some (.bool k.wa) ∧ W.cell? ⟨(w.heap.size + 1), 5, none⟩ = some (.bool k.ca) ∧ W.cell? ⟨(w.heap.size + 1), 6, none⟩ = some (.int .i64 k.code) ∧ W.cell? ⟨(w.heap.size + 1), 7, none⟩ = some (.string k.qn) ∧ W.cell? ⟨(w.heap.size + 1), 8, none⟩ = some (.int .i64 k.qt) ∧ W.cell? ⟨(w.heap.size + 1), 9, none⟩ = some (.slice A1' n1' c1') ∧ W.cell? ⟨(w.heap.size + 1), 10, none⟩ = some (.slice A2' n2' c2') ∧ W.cell? ⟨(w.heap.size + 1), 11, none⟩ = some (.slice A3' n3' c3'))) ∧ Sv w2 W) → Calls Try.prog 9 #[.agg #[.int .i64 k.id, .bool k.rp, .bool k.au, .bool k.ct, .bool k.wa, .bool k.ca, .int .i64 k.code, .string k.qn, .int .i64 k.qt, .slice A1' n1' c1', .slice A2' n2' c2', .slice A3' n3' c3']] W (GivesM W k n1' n2' n3' l1' l2' l3')) := fun W hW => toMsg_any k A1' n1' c1' l1' A2' n2' c2' l2' A3' n3' c3' l3' W  ((S1'.out.on L2.out).on hW.2) b1' ((S2'.out.on L2.out).on hW.2) b2' ((S3'.out.on L2.out).on hW.2) b3'
  have SP : Hid (∀ (W W' : World) (t1 f1 : Nat) (q1 : List Value) (t2 f2 : Nat) (q2 : List Value) (t3 f3 : Nat) (q3 : List Value) (s1 d1 : Nat) (p1 : List Value) (s2 d2 : Nat) (p2 : List Value) (s3 d3 : Nat) (p3 : List Value), Bk W t1 59 (fl l1 ++ q1) → Bk W t2 59 (fl l2 ++ q2) → Bk W t3 59 (fl l3 ++ q3) → Below W.heap.size W W' → Bk W' s1 59 (fl l1' ++ p1) → Bk W' s2 59 (fl l2' ++ p2) → Bk W' s3 59 (fl l3' ++ p3) → Calls Try.prog 8 #[.agg #[.int .i64 h.id, .bool h.rp, .bool h.au, .bool h.ct, .bool h.wa, .bool h.ca, .int .i64 h.code, .string h.qn, .int .i64 h.qt, .slice (some ⟨t1, 0, none⟩) n1 f1, .slice (some ⟨t2, 0, none⟩) n2 f2, .slice (some ⟨t3, 0, none⟩) n3 f3], .agg #[.int .i64 k.id, .bool k.rp, .bool k.au, .bool k.ct, .bool k.wa, .bool k.ca, .int .i64 k.code, .string k.qn, .int .i64 k.qt, .slice (some ⟨s1, 0, none⟩) n1' d1, .slice (some ⟨s2, 0, none⟩) n2' d2, .slice (some ⟨s3, 0, none⟩) n3' d3]] W' fun e w' => e = .returned (.bool q) ∧ Below W'.heap.size W' w') := fun W W' t1 f1 q1 t2 f2 q2 t3 f3 q3 s1 d1 p1 s2 d2 p2 s3 d3 p3 k1 k2 k3 hb k4 k5 k6 => HQ.out ▸ SamS.same h k _ _ n1 n1' f1 d1 l1 l1' _ _ n2 n2' f2 d2 l2 l2' _ _ n3 n3' f3 d3 l3 l3' W' (bk_sr (k1.below hb k1.lt) B1.out) (bk_sr k4 B1'.out) b1 b1' (bk_sr (k2.below hb k2.lt) B2.out) (bk_sr k5 B2'.out) b2 b2' (bk_sr (k3.below hb k3.lt) B3.out) (bk_sr k6 B3'.out) b3 b3'
  have S0 : (((w2.cell? ⟨w.heap.size, 0, none⟩ = some (.int .i64 h.id) ∧ w2.cell? ⟨w.heap.size, 1, none⟩ = some (.bool h.rp) ∧ w2.cell? ⟨w.heap.size, 2, none⟩ = some (.bool h.au) ∧ w2.cell? ⟨w.heap.size, 3, none⟩ = some (.bool h.ct) ∧ w2.cell? ⟨w.heap.size, 4, none⟩ = some (.bool h.wa) ∧ w2.cell? ⟨w.heap.size, 5, none⟩ = some (.bool h.ca) ∧ w2.cell? ⟨w.heap.size, 6, none⟩ = some (.int .i64 h.code) ∧ w2.cell? ⟨w.heap.size, 7, none⟩ = some (.string h.qn) ∧ w2.cell? ⟨w.heap.size, 8, none⟩ = some (.int .i64 h.qt) ∧ w2.cell? ⟨w.heap.size, 9, none⟩ = some (.slice A1 n1 c1) ∧ w2.cell? ⟨w.heap.size, 10, none⟩ = some (.slice A2 n2 c2) ∧ w2.cell? ⟨w.heap.size, 11, none⟩ = some (.slice A3 n3 c3)) ∧ (w2.cell? ⟨(w.heap.size + 1), 0, none⟩ = some (.int .i64 k.id) ∧ w2.cell? ⟨(w.heap.size + 1), 1, none⟩ = some (.bool k.rp) ∧ w2.cell? ⟨(w.heap.size + 1), 2, none⟩ = some (.bool k.au) ∧ w2.cell? ⟨(w.heap.size + 1), 3, none⟩ = some (.bool k.ct) ∧ w2.cell? ⟨(w.heap.size + 1), 4, none⟩ = some (.bool k.wa) ∧ w2.cell? ⟨(w.heap.size + 1), 5, none⟩ = some (.bool k.ca) ∧ w2.cell? ⟨(w.heap.size + 1), 6, none⟩ = some (.int .i64 k.code) ∧ w2.cell? ⟨(w.heap.size + 1), 7, none⟩ = some (.string k.qn) ∧ w2.cell? ⟨(w.heap.size + 1), 8, none⟩ = some (.int .i64 k.qt) ∧ w2.cell? ⟨(w.heap.size + 1), 9, none⟩ = some (.slice A1' n1' c1') ∧ w2.cell? ⟨(w.heap.size + 1), 10, none⟩ = some (.slice A2' n2' c2') ∧ w2.cell? ⟨(w.heap.size + 1), 11, none⟩ = some (.slice A3' n3' c3'))) ∧ Sv w2 w2) := ⟨⟨X2.out, Y2.out⟩, Below.refl _ _⟩
  go_wp2
  go_region_held3 (fun w' => (((w'.cell? ⟨w.heap.size, 0, none⟩ = some (.int .i64 h.id) ∧ w'.cell? ⟨w.heap.size, 1, none⟩ = some (.bool h.rp) ∧ w'.cell? ⟨w.heap.size, 2, none⟩ = some (.bool h.au) ∧ w'.cell? ⟨w.heap.size, 3, none⟩ = some (.bool h.ct) ∧ w'.cell? ⟨w.heap.size, 4, none⟩ = some (.bool h.wa) ∧ w'.cell? ⟨w.heap.size, 5, none⟩ = some (.bool h.ca) ∧ w'.cell? ⟨w.heap.size, 6, none⟩ = some (.int .i64 h.code) ∧ w'.cell? ⟨w.heap.size, 7, none⟩ = some (.string h.qn) ∧ w'.cell? ⟨w.heap.size, 8, none⟩ = some (.int .i64 h.qt) ∧ w'.cell? ⟨w.heap.size, 9, none⟩ = some (.slice A1 n1 c1) ∧ w'.cell? ⟨w.heap.size, 10, none⟩ = some (.slice A2 n2 c2) ∧ w'.cell? ⟨w.heap.size, 11, none⟩ = some (.slice A3 n3 c3)) ∧ (w'.cell? ⟨(w.heap.size + 1), 0, none⟩ = some (.int .i64 k.id) ∧ w'.cell? ⟨(w.heap.size + 1), 1, none⟩ = some (.bool k.rp) ∧ w'.cell? ⟨(w.heap.size + 1), 2, none⟩ = some (.bool k.au) ∧ w'.cell? ⟨(w.heap.size + 1), 3, none⟩ = some (.bool k.ct) ∧ w'.cell? ⟨(w.heap.size + 1), 4, none⟩ = some (.bool k.wa) ∧ w'.cell? ⟨(w.heap.size + 1), 5, none⟩ = some (.bool k.ca) ∧ w'.cell? ⟨(w.heap.size + 1), 6, none⟩ = some (.int .i64 k.code) ∧ w'.cell? ⟨(w.heap.size + 1), 7, none⟩ = some (.string k.qn) ∧ w'.cell? ⟨(w.heap.size + 1), 8, none⟩ = some (.int .i64 k.qt) ∧ w'.cell? ⟨(w.heap.size + 1), 9, none⟩ = some (.slice A1' n1' c1') ∧ w'.cell? ⟨(w.heap.size + 1), 10, none⟩ = some (.slice A2' n2' c2') ∧ w'.cell? ⟨(w.heap.size + 1), 11, none⟩ = some (.slice A3' n3' c3'))) ∧ Sv w2 w'))
    (first | with_reducible exact S0 | with_reducible assumption | exact kept2 (by assumption) hl | exact kept2_draw (by assumption) | fail)
    (first
      | (go_at_call 9; (with_reducible refine (TA.out _ (by assumption)).mono ?_); rintro e wt1 ⟨t1, f1, q1, t2, f2, q2, t3, f3, q3, rfl, ha1, ha2, ha3, -, -, -, hl⟩)
      | (go_at_call 9; (with_reducible refine (TB.out _ (by assumption)).mono ?_); rintro e wt2 ⟨s1, d1, p1, s2, d2, p2, s3, d3, p3, rfl, hb1, hb2, hb3, -, -, -, hl⟩)
      | (go_at_call 8; (with_reducible refine (SP.out _ _ _ _ _ _ _ _ _ _ _ _ _ _ _ _ _ _ _ _ ha1 ha2 ha3 hl hb1 hb2 hb3).mono ?_); rintro e w3 ⟨rfl, hl⟩)
      | fail)
  rename_i hH
  have hz : Below w2.heap.size w2 w3 := hH.2
  clear hH hb1 hb2 hb3 ha1 ha2 ha3 hl S0 TA TB SP
  have L3 := Lib.hid (L2.out.trans (hz.mono L2.out.size))
  have X3 := Lib.hid (X2.out.below hz)
  have Y3 := Lib.hid (Y2.out.below hz)
  clear hz L2 X2 Y2
  obtain ⟨x0_0, x0_1, x0_2, x0_3, x0_4, x0_5, x0_6, x0_7, x0_8, x0_9, x0_10, x0_11⟩ := X3.out
  go_wp2_with fail
  refine (toMsg_any h A1 n1 c1 l1 A2 n2 c2 l2 A3 n3 c3 l3 _ (S1.out.on L3.out) b1 (S2.out.on L3.out) b2 (S3.out.on L3.out) b3).mono ?_
  rintro e w4 ⟨u1, e1, ru1, u2, e2, ru2, u3, e3, ru3, rfl, hb1, hb2, hb3, -, -, -, hl⟩
  have U1_4 := Lib.hid hb1
  have U2_4 := Lib.hid hb2
  have U3_4 := Lib.hid hb3
  have L4 := Lib.hid (L3.out.trans (hl.mono L3.out.size))
  have X4 := Lib.hid (X3.out.below hl)
  have Y4 := Lib.hid (Y3.out.below hl)
  clear hl L3 X3 Y3
  clear hb1 hb2 hb3 x0_0 x0_1 x0_2 x0_3 x0_4 x0_5 x0_6 x0_7 x0_8 x0_9 x0_10 x0_11
  have al : Below w4.heap.size w4 (w4.alloc (.cells #[.int .i64 h.id, .bool h.rp, .bool h.au, .bool h.ct, .bool h.wa, .bool h.ca, .int .i64 h.code, .string h.qn, .int .i64 h.qt, .slice (some ⟨u1, 0, none⟩) n1 e1, .slice (some ⟨u2, 0, none⟩) n2 e2, .slice (some ⟨u3, 0, none⟩) n3 e3] 32)) := (Below.refl _ _).alloc (Nat.le_refl _) _
  have P5 := Lib.hid (mx_new w4 32 h (.slice (some ⟨u1, 0, none⟩) n1 e1) (.slice (some ⟨u2, 0, none⟩) n2 e2) (.slice (some ⟨u3, 0, none⟩) n3 e3))
  have L5 := Lib.hid (L4.out.trans (al.mono L4.out.size))
  have X5 := Lib.hid (X4.out.below al)
  have Y5 := Lib.hid (Y4.out.below al)
  have U1_5 := Lib.hid (U1_4.out.below al U1_4.out.lt)
  have U2_5 := Lib.hid (U2_4.out.below al U2_4.out.lt)
  have U3_5 := Lib.hid (U3_4.out.below al U3_4.out.lt)
  clear al L4 X4 Y4 U1_4 U2_4 U3_4
  obtain ⟨x0_0, x0_1, x0_2, x0_3, x0_4, x0_5, x0_6, x0_7, x0_8, x0_9, x0_10, x0_11⟩ := Y5.out
  go_wp2_with fail
  refine (toMsg_any k A1' n1' c1' l1' A2' n2' c2' l2' A3' n3' c3' l3' _ (S1'.out.on L5.out) b1' (S2'.out.on L5.out) b2' (S3'.out.on L5.out) b3').mono ?_
  rintro e w6 ⟨v1, o1, rv1, v2, o2, rv2, v3, o3, rv3, rfl, hb1, hb2, hb3, -, -, -, hl⟩
  have V1_6 := Lib.hid hb1
  have V2_6 := Lib.hid hb2
  have V3_6 := Lib.hid hb3
  have L6 := Lib.hid (L5.out.trans (hl.mono L5.out.size))
  have X6 := Lib.hid (X5.out.below hl)
  have Y6 := Lib.hid (Y5.out.below hl)
  have U1_6 := Lib.hid (U1_5.out.below hl U1_5.out.lt)
  have U2_6 := Lib.hid (U2_5.out.below hl U2_5.out.lt)
  have U3_6 := Lib.hid (U3_5.out.below hl U3_5.out.lt)
  have P6 := Lib.hid (P5.out.below hl)
  clear hl L5 X5 Y5 U1_5 U2_5 U3_5 P5
  clear hb1 hb2 hb3 x0_0 x0_1 x0_2 x0_3 x0_4 x0_5 x0_6 x0_7 x0_8 x0_9 x0_10 x0_11
  generalize w4.heap.size = gp at *
  have al : Below w6.heap.size w6 (w6.alloc (.cells #[.int .i64 k.id, .bool k.rp, .bool k.au, .bool k.ct, .bool k.wa, .bool k.ca, .int .i64 k.code, .string k.qn, .int .i64 k.qt, .slice (some ⟨v1, 0, none⟩) n1' o1, .slice (some ⟨v2, 0, none⟩) n2' o2, .slice (some ⟨v3, 0, none⟩) n3' o3] 32)) := (Below.refl _ _).alloc (Nat.le_refl _) _
  have Q7 := Lib.hid (mx_new w6 32 k (.slice (some ⟨v1, 0, none⟩) n1' o1) (.slice (some ⟨v2, 0, none⟩) n2' o2) (.slice (some ⟨v3, 0, none⟩) n3' o3))
  have L7 := Lib.hid (L6.out.trans (al.mono L6.out.size))
  have X7 := Lib.hid (X6.out.below al)
  have Y7 := Lib.hid (Y6.out.below al)
  have U1_7 := Lib.hid (U1_6.out.below al U1_6.out.lt)
  have U2_7 := Lib.hid (U2_6.out.below al U2_6.out.lt)
  have U3_7 := Lib.hid (U3_6.out.below al U3_6.out.lt)
  have P7 := Lib.hid (P6.out.below al)
  have V1_7 := Lib.hid (V1_6.out.below al V1_6.out.lt)
  have V2_7 := Lib.hid (V2_6.out.below al V2_6.out.lt)
  have V3_7 := Lib.hid (V3_6.out.below al V3_6.out.lt)
  clear al L6 X6 Y6 U1_6 U2_6 U3_6 P6 V1_6 V2_6 V3_6
  obtain ⟨x0_0, x0_1, x0_2, x0_3, x0_4, x0_5, x0_6, x0_7, x0_8, x0_9, x0_10, x0_11⟩ := P7.out
  go_wp2_with fail
  refine (SamN.same h k _ _ n1 n1' e1 o1 l1 l1' _ _ n2 n2' e2 o2 l2 l2' _ _ n3 n3' e3 o3 l3 l3' _ (bk_sr U1_7.out B1.out) (bk_sr V1_7.out B1'.out) b1 b1' (bk_sr U2_7.out B2.out) (bk_sr V2_7.out B2'.out) b2 b2' (bk_sr U3_7.out B3.out) (bk_sr V3_7.out B3'.out) b3 b3').mono ?_
  rintro e w8 ⟨rfl, hl⟩
  rw [HQ.out]
  generalize w6.heap.size = gq at *
  have L8 := Lib.hid (L7.out.trans (hl.mono L7.out.size))
  have X8 := Lib.hid (X7.out.below hl)
  have Y8 := Lib.hid (Y7.out.below hl)
  have U1_8 := Lib.hid (U1_7.out.below hl U1_7.out.lt)
  have U2_8 := Lib.hid (U2_7.out.below hl U2_7.out.lt)
  have U3_8 := Lib.hid (U3_7.out.below hl U3_7.out.lt)
  have P8 := Lib.hid (P7.out.below hl)
  have V1_8 := Lib.hid (V1_7.out.below hl V1_7.out.lt)
  have V2_8 := Lib.hid (V2_7.out.below hl V2_7.out.lt)
  have V3_8 := Lib.hid (V3_7.out.below hl V3_7.out.lt)
  have Q8 := Lib.hid (Q7.out.below hl)
  clear hl L7 X7 Y7 U1_7 U2_7 U3_7 P7 V1_7 V2_7 V3_7 Q7
  clear  x0_0 x0_1 x0_2 x0_3 x0_4 x0_5 x0_6 x0_7 x0_8 x0_9 x0_10 x0_11
  have TM : Hid (∀ W : World, (((W.cell? ⟨w.heap.size, 0, none⟩ = some (.int .i64 h.id) ∧ W.cell? ⟨w.heap.size, 1, none⟩ = some (.bool h.rp) ∧ W.cell? ⟨w.heap.size, 2, none⟩ = some (.bool h.au) ∧ W.cell? ⟨w.heap.size, 3, none⟩ = some (.bool h.ct) ∧ W.cell? ⟨w.heap.size, 4, none⟩ = some (.bool h.wa) ∧ W.cell? ⟨w.heap.size, 5, none⟩ = some (.bool h.ca) ∧ W.cell? ⟨w.heap.size, 6, none⟩ = some (.int .i64 h.code) ∧ W.cell? ⟨w.heap.size, 7, none⟩ = some (.string h.qn) ∧ W.cell? ⟨w.heap.size, 8, none⟩ = some (.int .i64 h.qt) ∧ W.cell? ⟨w.heap.size, 9, none⟩ = some (.slice A1 n1 c1) ∧ W.cell? ⟨w.heap.size, 10, none⟩ = some (.slice A2 n2 c2) ∧ W.cell? ⟨w.heap.size, 11, none⟩ = some (.slice A3 n3 c3)) ∧ (W.cell? ⟨gp, 0, none⟩ = some (.int .i64 h.id) ∧ W.cell? ⟨gp, 1, none⟩ = some (.bool h.rp) ∧ W.cell? ⟨gp, 2, none⟩ = some (.bool h.au) ∧ W.cell? ⟨gp, 3, none⟩ = some (.bool h.ct) ∧ W.cell? ⟨gp, 4, none⟩ = some (.bool h.wa) ∧ W.cell? ⟨gp, 5, none⟩ = some (.bool h.ca) ∧ W.cell? ⟨gp, 6, none⟩ = some (.int .i64 h.code) ∧ W.cell? ⟨gp, 7, none⟩ = some (.string h.qn) ∧ W.cell? ⟨gp, 8, none⟩ = some (.int .i64 h.qt) ∧ W.cell? ⟨gp, 9, none⟩ = some (.slice (some ⟨u1, 0, none⟩) n1 e1) ∧ W.cell? ⟨gp, 10, none⟩ = some (.slice (some ⟨u2, 0, none⟩) n2 e2) ∧ W.cell? ⟨gp, 11, none⟩ = some (.slice (some ⟨u3, 0, none⟩) n3 e3))) ∧ Sv w8 W) → Calls Try.prog 9 #[.agg #[.int .i64 h.id, .bool h.rp, .bool h.au, .bool h.ct, .bool h.wa, .bool h.ca, .int .i64 h.code, .string h.qn, .int .i64 h.qt, .slice A1 n1 c1, .slice A2 n2 c2, .slice A3 n3 c3]] W (GivesM W h n1 n2 n3 l1 l2 l3)) := fun W hW => toMsg_any h A1 n1 c1 l1 A2 n2 c2 l2 A3 n3 c3 l3 W ((S1.out.on L8.out).on hW.2) b1 ((S2.out.on L8.out).on hW.2) b2 ((S3.out.on L8.out).on hW.2) b3
  have EQ : Hid (∀ (W : World) (t1 f1 : Nat) (q1 : List Value) (t2 f2 : Nat) (q2 : List Value) (t3 f3 : Nat) (q3 : List Value), (((W.cell? ⟨w.heap.size, 0, none⟩ = some (.int .i64 h.id) ∧ W.cell? ⟨w.heap.size, 1, none⟩ = some (.bool h.rp) ∧ W.cell? ⟨w.heap.size, 2, none⟩ = some (.bool h.au) ∧ W.cell? ⟨w.heap.size, 3, none⟩ = some (.bool h.ct) ∧ W.cell? ⟨w.heap.size, 4, none⟩ = some (.bool h.wa) ∧ W.cell? ⟨w.heap.size, 5, none⟩ = some (.bool h.ca) ∧ W.cell? ⟨w.heap.size, 6, none⟩ = some (.int .i64 h.code) ∧ W.cell? ⟨w.heap.size, 7, none⟩ = some (.string h.qn) ∧ W.cell? ⟨w.heap.size, 8, none⟩ = some (.int .i64 h.qt) ∧ W.cell? ⟨w.heap.size, 9, none⟩ = some (.slice A1 n1 c1) ∧ W.cell? ⟨w.heap.size, 10, none⟩ = some (.slice A2 n2 c2) ∧ W.cell? ⟨w.heap.size, 11, none⟩ = some (.slice A3 n3 c3)) ∧ (W.cell? ⟨gp, 0, none⟩ = some (.int .i64 h.id) ∧ W.cell? ⟨gp, 1, none⟩ = some (.bool h.rp) ∧ W.cell? ⟨gp, 2, none⟩ = some (.bool h.au) ∧ W.cell? ⟨gp, 3, none⟩ = some (.bool h.ct) ∧ W.cell? ⟨gp, 4, none⟩ = some (.bool h.wa) ∧ W.cell? ⟨gp, 5, none⟩ = some (.bool h.ca) ∧ W.cell? ⟨gp, 6, none⟩ = some (.int .i64 h.code) ∧ W.cell? ⟨gp, 7, none⟩ = some (.string h.qn) ∧ W.cell? ⟨gp, 8, none⟩ = some (.int .i64 h.qt) ∧ W.cell? ⟨gp, 9, none⟩ = some (.slice (some ⟨u1, 0, none⟩) n1 e1) ∧ W.cell? ⟨gp, 10, none⟩ = some (.slice (some ⟨u2, 0, none⟩) n2 e2) ∧ W.cell? ⟨gp, 11, none⟩ = some (.slice (some ⟨u3, 0, none⟩) n3 e3))) ∧ Sv w8 W) → Bk W t1 59 (fl l1 ++ q1) → Bk W t2 59 (fl l2 ++ q2) → Bk W t3 59 (fl l3 ++ q3) → Calls Try.prog 11 #[.agg #[.int .i64 h.id, .bool h.rp, .bool h.au, .bool h.ct, .bool h.wa, .bool h.ca, .int .i64 h.code, .string h.qn, .int .i64 h.qt, .slice (some ⟨u1, 0, none⟩) n1 e1, .slice (some ⟨u2, 0, none⟩) n2 e2, .slice (some ⟨u3, 0, none⟩) n3 e3], .agg #[.int .i64 h.id, .bool h.rp, .bool h.au, .bool h.ct, .bool h.wa, .bool h.ca, .int .i64 h.code, .string h.qn, .int .i64 h.qt, .slice (some ⟨t1, 0, none⟩) n1 f1, .slice (some ⟨t2, 0, none⟩) n2 f2, .slice (some ⟨t3, 0, none⟩) n3 f3]] W fun e w' => e = .returned (.bool true) ∧ Below W.heap.size W w') := fun W t1 f1 q1 t2 f2 q2 t3 f3 q3 hW k1 k2 k3 => eqMsg_same h _ _ n1 e1 f1 l1 _ _ n2 e2 f2 l2 _ _ n3 e3 f3 l3 W (bk_sr (U1_8.out.below hW.2 U1_8.out.lt) B1.out) (bk_sr k1 B1.out) b1 (bk_sr (U2_8.out.below hW.2 U2_8.out.lt) B2.out) (bk_sr k2 B2.out) b2 (bk_sr (U3_8.out.below hW.2 U3_8.out.lt) B3.out) (bk_sr k3 B3.out) b3
  have S0 : (((w8.cell? ⟨w.heap.size, 0, none⟩ = some (.int .i64 h.id) ∧ w8.cell? ⟨w.heap.size, 1, none⟩ = some (.bool h.rp) ∧ w8.cell? ⟨w.heap.size, 2, none⟩ = some (.bool h.au) ∧ w8.cell? ⟨w.heap.size, 3, none⟩ = some (.bool h.ct) ∧ w8.cell? ⟨w.heap.size, 4, none⟩ = some (.bool h.wa) ∧ w8.cell? ⟨w.heap.size, 5, none⟩ = some (.bool h.ca) ∧ w8.cell? ⟨w.heap.size, 6, none⟩ = some (.int .i64 h.code) ∧ w8.cell? ⟨w.heap.size, 7, none⟩ = some (.string h.qn) ∧ w8.cell? ⟨w.heap.size, 8, none⟩ = some (.int .i64 h.qt) ∧ w8.cell? ⟨w.heap.size, 9, none⟩ = some (.slice A1 n1 c1) ∧ w8.cell? ⟨w.heap.size, 10, none⟩ = some (.slice A2 n2 c2) ∧ w8.cell? ⟨w.heap.size, 11, none⟩ = some (.slice A3 n3 c3)) ∧ (w8.cell? ⟨gp, 0, none⟩ = some (.int .i64 h.id) ∧ w8.cell? ⟨gp, 1, none⟩ = some (.bool h.rp) ∧ w8.cell? ⟨gp, 2, none⟩ = some (.bool h.au) ∧ w8.cell? ⟨gp, 3, none⟩ = some (.bool h.ct) ∧ w8.cell? ⟨gp, 4, none⟩ = some (.bool h.wa) ∧ w8.cell? ⟨gp, 5, none⟩ = some (.bool h.ca) ∧ w8.cell? ⟨gp, 6, none⟩ = some (.int .i64 h.code) ∧ w8.cell? ⟨gp, 7, none⟩ = some (.string h.qn) ∧ w8.cell? ⟨gp, 8, none⟩ = some (.int .i64 h.qt) ∧ w8.cell? ⟨gp, 9, none⟩ = some (.slice (some ⟨u1, 0, none⟩) n1 e1) ∧ w8.cell? ⟨gp, 10, none⟩ = some (.slice (some ⟨u2, 0, none⟩) n2 e2) ∧ w8.cell? ⟨gp, 11, none⟩ = some (.slice (some ⟨u3, 0, none⟩) n3 e3))) ∧ Sv w8 w8) := ⟨⟨X8.out, P8.out⟩, Below.refl _ _⟩
  have hbb : (q != q) = false := by cases q <;> rfl
  go_wp2
  go_region_held3 (fun w' => (((w'.cell? ⟨w.heap.size, 0, none⟩ = some (.int .i64 h.id) ∧ w'.cell? ⟨w.heap.size, 1, none⟩ = some (.bool h.rp) ∧ w'.cell? ⟨w.heap.size, 2, none⟩ = some (.bool h.au) ∧ w'.cell? ⟨w.heap.size, 3, none⟩ = some (.bool h.ct) ∧ w'.cell? ⟨w.heap.size, 4, none⟩ = some (.bool h.wa) ∧ w'.cell? ⟨w.heap.size, 5, none⟩ = some (.bool h.ca) ∧ w'.cell? ⟨w.heap.size, 6, none⟩ = some (.int .i64 h.code) ∧ w'.cell? ⟨w.heap.size, 7, none⟩ = some (.string h.qn) ∧ w'.cell? ⟨w.heap.size, 8, none⟩ = some (.int .i64 h.qt) ∧ w'.cell? ⟨w.heap.size, 9, none⟩ = some (.slice A1 n1 c1) ∧ w'.cell? ⟨w.heap.size, 10, none⟩ = some (.slice A2 n2 c2) ∧ w'.cell? ⟨w.heap.size, 11, none⟩ = some (.slice A3 n3 c3)) ∧ (w'.cell? ⟨gp, 0, none⟩ = some (.int .i64 h.id) ∧ w'.cell? ⟨gp, 1, none⟩ = some (.bool h.rp) ∧ w'.cell? ⟨gp, 2, none⟩ = some (.bool h.au) ∧ w'.cell? ⟨gp, 3, none⟩ = some (.bool h.ct) ∧ w'.cell? ⟨gp, 4, none⟩ = some (.bool h.wa) ∧ w'.cell? ⟨gp, 5, none⟩ = some (.bool h.ca) ∧ w'.cell? ⟨gp, 6, none⟩ = some (.int .i64 h.code) ∧ w'.cell? ⟨gp, 7, none⟩ = some (.string h.qn) ∧ w'.cell? ⟨gp, 8, none⟩ = some (.int .i64 h.qt) ∧ w'.cell? ⟨gp, 9, none⟩ = some (.slice (some ⟨u1, 0, none⟩) n1 e1) ∧ w'.cell? ⟨gp, 10, none⟩ = some (.slice (some ⟨u2, 0, none⟩) n2 e2) ∧ w'.cell? ⟨gp, 11, none⟩ = some (.slice (some ⟨u3, 0, none⟩) n3 e3))) ∧ Sv w8 w'))
    (first | with_reducible exact S0 | with_reducible assumption | exact kept2 (by assumption) hl | exact kept2_draw (by assumption) | fail)
    (first
      | (go_at_call 9; (with_reducible refine (TM.out _ (by assumption)).mono ?_); rintro e wt8 ⟨tt1, ff1, qq1, tt2, ff2, qq2, tt3, ff3, qq3, rfl, hb1, hb2, hb3, -, -, -, hl⟩)
      | (go_at_call 11; (with_reducible refine (EQ.out _ _ _ _ _ _ _ _ _ _ (by assumption) hb1 hb2 hb3).mono ?_); rintro e w9 ⟨rfl, hl⟩)
      | fail)
  rename_i hH
  have hz : Below w8.heap.size w8 w9 := hH.2
  clear hH hb1 hb2 hb3 hl S0 TM EQ
  have L9 := Lib.hid (L8.out.trans (hz.mono L8.out.size))
  have Y9 := Lib.hid (Y8.out.below hz)
  have V1_9 := Lib.hid (V1_8.out.below hz V1_8.out.lt)
  have V2_9 := Lib.hid (V2_8.out.below hz V2_8.out.lt)
  have V3_9 := Lib.hid (V3_8.out.below hz V3_8.out.lt)
  have Q9 := Lib.hid (Q8.out.below hz)
  clear hz L8 X8 Y8 U1_8 U2_8 U3_8 P8 V1_8 V2_8 V3_8 Q8
  have TM : Hid (∀ W : World, (((W.cell? ⟨(w.heap.size + 1), 0, none⟩ = some (.int .i64 k.id) ∧ W.cell? ⟨(w.heap.size + 1), 1, none⟩ = some (.bool k.rp) ∧ W.cell? ⟨(w.heap.size + 1), 2, none⟩ = some (.bool k.au) ∧ W.cell? ⟨(w.heap.size + 1), 3, none⟩ = some (.bool k.ct) ∧ W.cell? ⟨(w.heap.size + 1), 4, none⟩ = some (.bool k.wa) ∧ W.cell? ⟨(w.heap.size + 1), 5, none⟩ = some (.bool k.ca) ∧ W.cell? ⟨(w.heap.size + 1), 6, none⟩ = some (.int .i64 k.code) ∧ W.cell? ⟨(w.heap.size + 1), 7, none⟩ = some (.string k.qn) ∧ W.cell? ⟨(w.heap.size + 1), 8, none⟩ = some (.int .i64 k.qt) ∧ W.cell? ⟨(w.heap.size + 1), 9, none⟩ = some (.slice A1' n1' c1') ∧ W.cell? ⟨(w.heap.size + 1), 10, none⟩ = some (.slice A2' n2' c2') ∧ W.cell? ⟨(w.heap.size + 1), 11, none⟩ = some (.slice A3' n3' c3')) ∧ (W.cell? ⟨gq, 0, none⟩ = some (.int .i64 k.id) ∧ W.cell? ⟨gq, 1, none⟩ = some (.bool k.rp) ∧ W.cell? ⟨gq, 2, none⟩ = some (.bool k.au) ∧ W.cell? ⟨gq, 3, none⟩ = some (.bool k.ct) ∧ W.cell? ⟨gq, 4, none⟩ = some (.bool k.wa) ∧ W.cell? ⟨gq, 5, none⟩ = some (.bool k.ca) ∧ W.cell? ⟨gq, 6, none⟩ = some (.int .i64 k.code) ∧ W.cell? ⟨gq, 7, none⟩ = some (.string k.qn) ∧ W.cell? ⟨gq, 8, none⟩ = some (.int .i64 k.qt) ∧ W.cell? ⟨gq, 9, none⟩ = some (.slice (some ⟨v1, 0, none⟩) n1' o1) ∧ W.cell? ⟨gq, 10, none⟩ = some (.slice (some ⟨v2, 0, none⟩) n2' o2) ∧ W.cell? ⟨gq, 11, none⟩ = some (.slice (some ⟨v3, 0, none⟩) n3' o3))) ∧ Sv w9 W) → Calls Try.prog 9 #[.agg #[.int .i64 k.id, .bool k.rp, .bool k.au, .bool k.ct, .bool k.wa, .bool k.ca, .int .i64 k.code, .string k.qn, .int .i64 k.qt, .slice A1' n1' c1', .slice A2' n2' c2', .slice A3' n3' c3']] W (GivesM W k n1' n2' n3' l1' l2' l3')) := fun W hW => toMsg_any k A1' n1' c1' l1' A2' n2' c2' l2' A3' n3' c3' l3' W ((S1'.out.on L9.out).on hW.2) b1' ((S2'.out.on L9.out).on hW.2) b2' ((S3'.out.on L9.out).on hW.2) b3'
  have EQ : Hid (∀ (W : World) (t1 f1 : Nat) (q1 : List Value) (t2 f2 : Nat) (q2 : List Value) (t3 f3 : Nat) (q3 : List Value), (((W.cell? ⟨(w.heap.size + 1), 0, none⟩ = some (.int .i64 k.id) ∧ W.cell? ⟨(w.heap.size + 1), 1, none⟩ = some (.bool k.rp) ∧ W.cell? ⟨(w.heap.size + 1), 2, none⟩ = some (.bool k.au) ∧ W.cell? ⟨(w.heap.size + 1), 3, none⟩ = some (.bool k.ct) ∧ W.cell? ⟨(w.heap.size + 1), 4, none⟩ = some (.bool k.wa) ∧ W.cell? ⟨(w.heap.size + 1), 5, none⟩ = some (.bool k.ca) ∧ W.cell? ⟨(w.heap.size + 1), 6, none⟩ = some (.int .i64 k.code) ∧ W.cell? ⟨(w.heap.size + 1), 7, none⟩ = some (.string k.qn) ∧ W.cell? ⟨(w.heap.size + 1), 8, none⟩ = some (.int .i64 k.qt) ∧ W.cell? ⟨(w.heap.size + 1), 9, none⟩ = some (.slice A1' n1' c1') ∧ W.cell? ⟨(w.heap.size + 1), 10, none⟩ = some (.slice A2' n2' c2') ∧ W.cell? ⟨(w.heap.size + 1), 11, none⟩ = some (.slice A3' n3' c3')) ∧ (W.cell? ⟨gq, 0, none⟩ = some (.int .i64 k.id) ∧ W.cell? ⟨gq, 1, none⟩ = some (.bool k.rp) ∧ W.cell? ⟨gq, 2, none⟩ = some (.bool k.au) ∧ W.cell? ⟨gq, 3, none⟩ = some (.bool k.ct) ∧ W.cell? ⟨gq, 4, none⟩ = some (.bool k.wa) ∧ W.cell? ⟨gq, 5, none⟩ = some (.bool k.ca) ∧ W.cell? ⟨gq, 6, none⟩ = some (.int .i64 k.code) ∧ W.cell? ⟨gq, 7, none⟩ = some (.string k.qn) ∧ W.cell? ⟨gq, 8, none⟩ = some (.int .i64 k.qt) ∧ W.cell? ⟨gq, 9, none⟩ = some (.slice (some ⟨v1, 0, none⟩) n1' o1) ∧ W.cell? ⟨gq, 10, none⟩ = some (.slice (some ⟨v2, 0, none⟩) n2' o2) ∧ W.cell? ⟨gq, 11, none⟩ = some (.slice (some ⟨v3, 0, none⟩) n3' o3))) ∧ Sv w9 W) → Bk W t1 59 (fl l1' ++ q1) → Bk W t2 59 (fl l2' ++ q2) → Bk W t3 59 (fl l3' ++ q3) → Calls Try.prog 11 #[.agg #[.int .i64 k.id, .bool k.rp, .bool k.au, .bool k.ct, .bool k.wa, .bool k.ca, .int .i64 k.code, .string k.qn, .int .i64 k.qt, .slice (some ⟨v1, 0, none⟩) n1' o1, .slice (some ⟨v2, 0, none⟩) n2' o2, .slice (some ⟨v3, 0, none⟩) n3' o3], .agg #[.int .i64 k.id, .bool k.rp, .bool k.au, .bool k.ct, .bool k.wa, .bool k.ca, .int .i64 k.code, .string k.qn, .int .i64 k.qt, .slice (some ⟨t1, 0, none⟩) n1' f1, .slice (some ⟨t2, 0, none⟩) n2' f2, .slice (some ⟨t3, 0, none⟩) n3' f3]] W fun e w' => e = .returned (.bool true) ∧ Below W.heap.size W w') := fun W t1 f1 q1 t2 f2 q2 t3 f3 q3 hW k1 k2 k3 => eqMsg_same k _ _ n1' o1 f1 l1' _ _ n2' o2 f2 l2' _ _ n3' o3 f3 l3' W (bk_sr (V1_9.out.below hW.2 V1_9.out.lt) B1'.out) (bk_sr k1 B1'.out) b1' (bk_sr (V2_9.out.below hW.2 V2_9.out.lt) B2'.out) (bk_sr k2 B2'.out) b2' (bk_sr (V3_9.out.below hW.2 V3_9.out.lt) B3'.out) (bk_sr k3 B3'.out) b3'
  have S0 : (((w9.cell? ⟨(w.heap.size + 1), 0, none⟩ = some (.int .i64 k.id) ∧ w9.cell? ⟨(w.heap.size + 1), 1, none⟩ = some (.bool k.rp) ∧ w9.cell? ⟨(w.heap.size + 1), 2, none⟩ = some (.bool k.au) ∧ w9.cell? ⟨(w.heap.size + 1), 3, none⟩ = some (.bool k.ct) ∧ w9.cell? ⟨(w.heap.size + 1), 4, none⟩ = some (.bool k.wa) ∧ w9.cell? ⟨(w.heap.size + 1), 5, none⟩ = some (.bool k.ca) ∧ w9.cell? ⟨(w.heap.size + 1), 6, none⟩ = some (.int .i64 k.code) ∧ w9.cell? ⟨(w.heap.size + 1), 7, none⟩ = some (.string k.qn) ∧ w9.cell? ⟨(w.heap.size + 1), 8, none⟩ = some (.int .i64 k.qt) ∧ w9.cell? ⟨(w.heap.size + 1), 9, none⟩ = some (.slice A1' n1' c1') ∧ w9.cell? ⟨(w.heap.size + 1), 10, none⟩ = some (.slice A2' n2' c2') ∧ w9.cell? ⟨(w.heap.size + 1), 11, none⟩ = some (.slice A3' n3' c3')) ∧ (w9.cell? ⟨gq, 0, none⟩ = some (.int .i64 k.id) ∧ w9.cell? ⟨gq, 1, none⟩ = some (.bool k.rp) ∧ w9.cell? ⟨gq, 2, none⟩ = some (.bool k.au) ∧ w9.cell? ⟨gq, 3, none⟩ = some (.bool k.ct) ∧ w9.cell? ⟨gq, 4, none⟩ = some (.bool k.wa) ∧ w9.cell? ⟨gq, 5, none⟩ = some (.bool k.ca) ∧ w9.cell? ⟨gq, 6, none⟩ = some (.int .i64 k.code) ∧ w9.cell? ⟨gq, 7, none⟩ = some (.string k.qn) ∧ w9.cell? ⟨gq, 8, none⟩ = some (.int .i64 k.qt) ∧ w9.cell? ⟨gq, 9, none⟩ = some (.slice (some ⟨v1, 0, none⟩) n1' o1) ∧ w9.cell? ⟨gq, 10, none⟩ = some (.slice (some ⟨v2, 0, none⟩) n2' o2) ∧ w9.cell? ⟨gq, 11, none⟩ = some (.slice (some ⟨v3, 0, none⟩) n3' o3))) ∧ Sv w9 w9) := ⟨⟨Y9.out, Q9.out⟩, Below.refl _ _⟩
  go_wp2
  go_region_held3 (fun w' => (((w'.cell? ⟨(w.heap.size + 1), 0, none⟩ = some (.int .i64 k.id) ∧ w'.cell? ⟨(w.heap.size + 1), 1, none⟩ = some (.bool k.rp) ∧ w'.cell? ⟨(w.heap.size + 1), 2, none⟩ = some (.bool k.au) ∧ w'.cell? ⟨(w.heap.size + 1), 3, none⟩ = some (.bool k.ct) ∧ w'.cell? ⟨(w.heap.size + 1), 4, none⟩ = some (.bool k.wa) ∧ w'.cell? ⟨(w.heap.size + 1), 5, none⟩ = some (.bool k.ca) ∧ w'.cell? ⟨(w.heap.size + 1), 6, none⟩ = some (.int .i64 k.code) ∧ w'.cell? ⟨(w.heap.size + 1), 7, none⟩ = some (.string k.qn) ∧ w'.cell? ⟨(w.heap.size + 1), 8, none⟩ = some (.int .i64 k.qt) ∧ w'.cell? ⟨(w.heap.size + 1), 9, none⟩ = some (.slice A1' n1' c1') ∧ w'.cell? ⟨(w.heap.size + 1), 10, none⟩ = some (.slice A2' n2' c2') ∧ w'.cell? ⟨(w.heap.size + 1), 11, none⟩ = some (.slice A3' n3' c3')) ∧ (w'.cell? ⟨gq, 0, none⟩ = some (.int .i64 k.id) ∧ w'.cell? ⟨gq, 1, none⟩ = some (.bool k.rp) ∧ w'.cell? ⟨gq, 2, none⟩ = some (.bool k.au) ∧ w'.cell? ⟨gq, 3, none⟩ = some (.bool k.ct) ∧ w'.cell? ⟨gq, 4, none⟩ = some (.bool k.wa) ∧ w'.cell? ⟨gq, 5, none⟩ = some (.bool k.ca) ∧ w'.cell? ⟨gq, 6, none⟩ = some (.int .i64 k.code) ∧ w'.cell? ⟨gq, 7, none⟩ = some (.string k.qn) ∧ w'.cell? ⟨gq, 8, none⟩ = some (.int .i64 k.qt) ∧ w'.cell? ⟨gq, 9, none⟩ = some (.slice (some ⟨v1, 0, none⟩) n1' o1) ∧ w'.cell? ⟨gq, 10, none⟩ = some (.slice (some ⟨v2, 0, none⟩) n2' o2) ∧ w'.cell? ⟨gq, 11, none⟩ = some (.slice (some ⟨v3, 0, none⟩) n3' o3))) ∧ Sv w9 w'))
    (first | with_reducible exact S0 | with_reducible assumption | exact kept2 (by assumption) hl | exact kept2_draw (by assumption) | fail)
    (first
      | (go_at_call 9; (with_reducible refine (TM.out _ (by assumption)).mono ?_); rintro e wt9 ⟨tt1, ff1, qq1, tt2, ff2, qq2, tt3, ff3, qq3, rfl, hb1, hb2, hb3, -, -, -, hl⟩)
      | (go_at_call 11; (with_reducible refine (EQ.out _ _ _ _ _ _ _ _ _ _ (by assumption) hb1 hb2 hb3).mono ?_); rintro e w10 ⟨rfl, hl⟩)
      | fail)
  rename_i hH
  have hz : Below w9.heap.size w9 w10 := hH.2
  clear hH hb1 hb2 hb3 hl S0 TM EQ
  have L10 := Lib.hid (L9.out.trans (hz.mono L9.out.size))
  clear hz L9 Y9 V1_9 V2_9 V3_9 Q9
  go_wp2
  go_ret
  exact ⟨rfl, L10.out⟩
end Go.Proofs.Ytbjhkhmhmldjoaa.LawSameMsg
