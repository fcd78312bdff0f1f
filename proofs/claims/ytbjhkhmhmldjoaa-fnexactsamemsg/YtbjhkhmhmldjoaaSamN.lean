/- What the program's SameMsg does. Condition: fewer than 400000001 records in each section. -/
import Derived.Test.YtbjhkhmhmldjoaaSamM
import Derived.Deep.RegionHeld3
import Derived.Deep.DeepCutAuto
namespace Go.Proofs.Ytbjhkhmhmldjoaa.SamN
open Go.RowKit Go.Proofs.Ytbjhkhmhmldjoaa.Mem Go.Proofs.Ytbjhkhmhmldjoaa.MemR Go.Proofs.Ytbjhkhmhmldjoaa.BoxR Go.Proofs.Ytbjhkhmhmldjoaa.MemM Go.Proofs.Ytbjhkhmhmldjoaa.ResM Go.Proofs.Ytbjhkhmhmldjoaa.SameR Go.Proofs.Ytbjhkhmhmldjoaa.OfM Go.Proofs.Ytbjhkhmhmldjoaa.SamM

theorem kept2_alloc {w0 w : World} {g k : Nat} {h j : Hd} {x y z a b c : Value} (m : (Mx w g h x y z ∧ Mx w k j a b c) ∧ Sv w0 w) (o : Obj) : (Mx (w.alloc o) g h x y z ∧ Mx (w.alloc o) k j a b c) ∧ Sv w0 (w.alloc o) := kept2 m ((Below.refl _ _).alloc (Nat.le_refl _) _)

theorem sv_alloc {w W : World} (m : Below w.heap.size w W) (o : Obj) : Below w.heap.size w (W.alloc o) := m.alloc m.size o
theorem sv_drew {w W : World} (m : Below w.heap.size w W) : Below w.heap.size w W.drew := m.drew
theorem mx_drew {w : World} {g : Nat} {h : Hd} {x y z : Value} (m : Mx w g h x y z) : Mx w.drew g h x y z := m.below ((Below.refl _ _).drew)
theorem mx_newE (w : World) (t : TypeId) (h : Hd) (x y z : Value) (g : Nat) (e : w.heap.size = g) : Mx (w.alloc (.cells #[.int .i64 h.id, .bool h.rp, .bool h.au, .bool h.ct, .bool h.wa, .bool h.ca, .int .i64 h.code, .string h.qn, .int .i64 h.qt, x, y, z] t)) g h x y z := e ▸ mx_new w t h x y z
theorem neqH_eq {h k : Hd} (e : hid7 h k) (w : World) : Sem.run Try.prog (binOp .neq 49 (.agg #[.int .i64 h.id, .bool h.rp, .bool h.au, .bool h.ct, .bool h.wa, .bool h.ca, .int .i64 h.code]) (.agg #[.int .i64 k.id, .bool k.rp, .bool k.au, .bool k.ct, .bool k.wa, .bool k.ca, .int .i64 k.code])) w = .ok (.bool false) w := by
  obtain ⟨e1, e2, e3, e4, e5, e6, e7⟩ := e
  rw [e1, e2, e3, e4, e5, e6, e7]
  exact neqH_same k w
theorem neqQ_eq {s t : ByteArray} {n m : Int} (e : s = t ∧ n = m) (w : World) : Sem.run Try.prog (binOp .neq 29 (.agg #[.string s, .int .i64 n]) (.agg #[.string t, .int .i64 m])) w = .ok (.bool false) w := by
  obtain ⟨rfl, rfl⟩ := e
  exact neqQ_same s n w

set_option maxHeartbeats 2000000 in
/-- messageOf with the very world behind it. -/
theorem ofX (h : Hd) (A1 A2 A3 : Option Addr) (n1 c1 n2 c2 n3 c3 : Nat) (w : World) : Calls Try.prog 27 #[.agg #[.int .i64 h.id, .bool h.rp, .bool h.au, .bool h.ct, .bool h.wa, .bool h.ca, .int .i64 h.code, .string h.qn, .int .i64 h.qt, .slice A1 n1 c1, .slice A2 n2 c2, .slice A3 n3 c3]] w fun e w' => e = .returned (.agg #[.int .i64 h.id, .bool h.rp, .bool h.au, .bool h.ct, .bool h.wa, .bool h.ca, .int .i64 h.code, .string h.qn, .int .i64 h.qt, .slice A1 n1 c1, .slice A2 n2 c2, .slice A3 n3 c3]) ∧ w' = (w.alloc (.cells #[.int .i64 h.id, .bool h.rp, .bool h.au, .bool h.ct, .bool h.wa, .bool h.ca, .int .i64 h.code, .string h.qn, .int .i64 h.qt, .slice A1 n1 c1, .slice A2 n2 c2, .slice A3 n3 c3] 32)).alloc (.cells #[.int .i64 h.id, .bool h.rp, .bool h.au, .bool h.ct, .bool h.wa, .bool h.ca, .int .i64 h.code, .string h.qn, .int .i64 h.qt, .slice A1 n1 c1, .slice A2 n2 c2, .slice A3 n3 c3] 52) := by
  go_enter Try.func27, Try.ntmps27
  go_wp2
  exact bodyPost_ret (v := .agg #[.int .i64 h.id, .bool h.rp, .bool h.au, .bool h.ct, .bool h.wa, .bool h.ca, .int .i64 h.code, .string h.qn, .int .i64 h.qt, .slice A1 n1 c1, .slice A2 n2 c2, .slice A3 n3 c3]) (by simp [results, Try.results27, go_sem]) rfl ⟨rfl, rfl⟩

set_option maxRecDepth 100000 in
set_option maxHeartbeats 16000000 in
theorem same (h k : Hd) (A1 A1' : Option Addr) (n1 n1' c1 c1' : Nat) (l1 m1 : List Rec) (A2 A2' : Option Addr) (n2 n2' c2 c2' : Nat) (l2 m2 : List Rec) (A3 A3' : Option Addr) (n3 n3' c3 c3' : Nat) (l3 m3 : List Rec) (w : World) (e1 : Sr w w.heap.size A1 n1 l1) (g1 : Sr w w.heap.size A1' n1' m1) (b1 : n1 ≤ 400000000) (b1' : n1' ≤ 400000000) (e2 : Sr w w.heap.size A2 n2 l2) (g2 : Sr w w.heap.size A2' n2' m2) (b2 : n2 ≤ 400000000) (b2' : n2' ≤ 400000000) (e3 : Sr w w.heap.size A3 n3 l3) (g3 : Sr w w.heap.size A3' n3' m3) (b3 : n3 ≤ 400000000) (b3' : n3' ≤ 400000000) : Calls Try.prog 10 #[.agg #[.int .i64 h.id, .bool h.rp, .bool h.au, .bool h.ct, .bool h.wa, .bool h.ca, .int .i64 h.code, .string h.qn, .int .i64 h.qt, .slice A1 n1 c1, .slice A2 n2 c2, .slice A3 n3 c3], .agg #[.int .i64 k.id, .bool k.rp, .bool k.au, .bool k.ct, .bool k.wa, .bool k.ca, .int .i64 k.code, .string k.qn, .int .i64 k.qt, .slice A1' n1' c1', .slice A2' n2' c2', .slice A3' n3' c3']] w fun e w' => e = .returned (.bool (smm h k l1 l2 l3 m1 m2 m3)) ∧ Below w.heap.size w w' := by
  have X0 := Lib.hid ((mx_new w 32 h (.slice A1 n1 c1) (.slice A2 n2 c2) (.slice A3 n3 c3)).alloc (.cells #[.int .i64 k.id, .bool k.rp, .bool k.au, .bool k.ct, .bool k.wa, .bool k.ca, .int .i64 k.code, .string k.qn, .int .i64 k.qt, .slice A1' n1' c1', .slice A2' n2' c2', .slice A3' n3' c3'] 32))
  have Y0 := Lib.hid (mx_of (h := k) (x := .slice A1' n1' c1') (y := .slice A2' n2' c2') (z := .slice A3' n3' c3') (at2 (w := w) (a := .cells #[.int .i64 h.id, .bool h.rp, .bool h.au, .bool h.ct, .bool h.wa, .bool h.ca, .int .i64 h.code, .string h.qn, .int .i64 h.qt, .slice A1 n1 c1, .slice A2 n2 c2, .slice A3 n3 c3] 32) (cs := #[.int .i64 k.id, .bool k.rp, .bool k.au, .bool k.ct, .bool k.wa, .bool k.ca, .int .i64 k.code, .string k.qn, .int .i64 k.qt, .slice A1' n1' c1', .slice A2' n2' c2', .slice A3' n3' c3']) (t := 32)))
  have L0 := Lib.hid (((Below.refl w.heap.size w).alloc (Nat.le_refl _) (.cells #[.int .i64 h.id, .bool h.rp, .bool h.au, .bool h.ct, .bool h.wa, .bool h.ca, .int .i64 h.code, .string h.qn, .int .i64 h.qt, .slice A1 n1 c1, .slice A2 n2 c2, .slice A3 n3 c3] 32)).alloc (by simp) (.cells #[.int .i64 k.id, .bool k.rp, .bool k.au, .bool k.ct, .bool k.wa, .bool k.ca, .int .i64 k.code, .string k.qn, .int .i64 k.qt, .slice A1' n1' c1', .slice A2' n2' c2', .slice A3' n3' c3'] 32))
  have O1 := Lib.hid (ofX h A1 A2 A3 n1 c1 n2 c2 n3 c3)
  have O2 := Lib.hid (ofX k A1' A2' A3' n1' c1' n2' c2' n3' c3')
  generalize hW0 : ((w.alloc (.cells #[.int .i64 h.id, .bool h.rp, .bool h.au, .bool h.ct, .bool h.wa, .bool h.ca, .int .i64 h.code, .string h.qn, .int .i64 h.qt, .slice A1 n1 c1, .slice A2 n2 c2, .slice A3 n3 c3] 32)).alloc (.cells #[.int .i64 k.id, .bool k.rp, .bool k.au, .bool k.ct, .bool k.wa, .bool k.ca, .int .i64 k.code, .string k.qn, .int .i64 k.qt, .slice A1' n1' c1', .slice A2' n2' c2', .slice A3' n3' c3'] 32)) = W0 at X0 Y0 L0
  have S0 : (((W0.cell? ⟨w.heap.size, 0, none⟩ = some (.int .i64 h.id) ∧ W0.cell? ⟨w.heap.size, 1, none⟩ = some (.bool h.rp) ∧ W0.cell? ⟨w.heap.size, 2, none⟩ = some (.bool h.au) ∧ W0.cell? ⟨w.heap.size, 3, none⟩ = some (.bool h.ct) ∧ W0.cell? ⟨w.heap.size, 4, none⟩ = some (.bool h.wa) ∧ W0.cell? ⟨w.heap.size, 5, none⟩ = some (.bool h.ca) ∧ W0.cell? ⟨w.heap.size, 6, none⟩ = some (.int .i64 h.code) ∧ W0.cell? ⟨w.heap.size, 7, none⟩ = some (.string h.qn) ∧ W0.cell? ⟨w.heap.size, 8, none⟩ = some (.int .i64 h.qt) ∧ W0.cell? ⟨w.heap.size, 9, none⟩ = some (.slice A1 n1 c1) ∧ W0.cell? ⟨w.heap.size, 10, none⟩ = some (.slice A2 n2 c2) ∧ W0.cell? ⟨w.heap.size, 11, none⟩ = some (.slice A3 n3 c3)) ∧ (W0.cell? ⟨(w.heap.size + 1), 0, none⟩ = some (.int .i64 k.id) ∧ W0.cell? ⟨(w.heap.size + 1), 1, none⟩ = some (.bool k.rp) ∧ W0.cell? ⟨(w.heap.size + 1), 2, none⟩ = some (.bool k.au) ∧ W0.cell? ⟨(w.heap.size + 1), 3, none⟩ = some (.bool k.ct) ∧ W0.cell? ⟨(w.heap.size + 1), 4, none⟩ = some (.bool k.wa) ∧ W0.cell? ⟨(w.heap.size + 1), 5, none⟩ = some (.bool k.ca) ∧ W0.cell? ⟨(w.heap.size + 1), 6, none⟩ = some (.int .i64 k.code) ∧ W0.cell? ⟨(w.heap.size + 1), 7, none⟩ = some (.string k.qn) ∧ W0.cell? ⟨(w.heap.size + 1), 8, none⟩ = some (.int .i64 k.qt) ∧ W0.cell? ⟨(w.heap.size + 1), 9, none⟩ = some (.slice A1' n1' c1') ∧ W0.cell? ⟨(w.heap.size + 1), 10, none⟩ = some (.slice A2' n2' c2') ∧ W0.cell? ⟨(w.heap.size + 1), 11, none⟩ = some (.slice A3' n3' c3'))) ∧ Sv w W0) := ⟨⟨X0.out, Y0.out⟩, L0.out⟩
  go_enter Try.func10, Try.ntmps10
  go_upto_region 1 with (fail)
  go_cut [5, 6] (fun a b wx => ∃ gx gy, a = .pointer (some ⟨gx, 0, none⟩) ∧ b = .pointer (some ⟨gy, 0, none⟩) ∧ Hid (Mx wx gx h (.slice A1 n1 c1) (.slice A2 n2 c2) (.slice A3 n3 c3)) ∧ Hid (Mx wx gy k (.slice A1' n1' c1') (.slice A2' n2' c2') (.slice A3' n3' c3')) ∧ Hid (Below w.heap.size w wx))
  case first =>
    go_region_held3 (fun w' => (((w'.cell? ⟨w.heap.size, 0, none⟩ = some (.int .i64 h.id) ∧ w'.cell? ⟨w.heap.size, 1, none⟩ = some (.bool h.rp) ∧ w'.cell? ⟨w.heap.size, 2, none⟩ = some (.bool h.au) ∧ w'.cell? ⟨w.heap.size, 3, none⟩ = some (.bool h.ct) ∧ w'.cell? ⟨w.heap.size, 4, none⟩ = some (.bool h.wa) ∧ w'.cell? ⟨w.heap.size, 5, none⟩ = some (.bool h.ca) ∧ w'.cell? ⟨w.heap.size, 6, none⟩ = some (.int .i64 h.code) ∧ w'.cell? ⟨w.heap.size, 7, none⟩ = some (.string h.qn) ∧ w'.cell? ⟨w.heap.size, 8, none⟩ = some (.int .i64 h.qt) ∧ w'.cell? ⟨w.heap.size, 9, none⟩ = some (.slice A1 n1 c1) ∧ w'.cell? ⟨w.heap.size, 10, none⟩ = some (.slice A2 n2 c2) ∧ w'.cell? ⟨w.heap.size, 11, none⟩ = some (.slice A3 n3 c3)) ∧ (w'.cell? ⟨(w.heap.size + 1), 0, none⟩ = some (.int .i64 k.id) ∧ w'.cell? ⟨(w.heap.size + 1), 1, none⟩ = some (.bool k.rp) ∧ w'.cell? ⟨(w.heap.size + 1), 2, none⟩ = some (.bool k.au) ∧ w'.cell? ⟨(w.heap.size + 1), 3, none⟩ = some (.bool k.ct) ∧ w'.cell? ⟨(w.heap.size + 1), 4, none⟩ = some (.bool k.wa) ∧ w'.cell? ⟨(w.heap.size + 1), 5, none⟩ = some (.bool k.ca) ∧ w'.cell? ⟨(w.heap.size + 1), 6, none⟩ = some (.int .i64 k.code) ∧ w'.cell? ⟨(w.heap.size + 1), 7, none⟩ = some (.string k.qn) ∧ w'.cell? ⟨(w.heap.size + 1), 8, none⟩ = some (.int .i64 k.qt) ∧ w'.cell? ⟨(w.heap.size + 1), 9, none⟩ = some (.slice A1' n1' c1') ∧ w'.cell? ⟨(w.heap.size + 1), 10, none⟩ = some (.slice A2' n2' c2') ∧ w'.cell? ⟨(w.heap.size + 1), 11, none⟩ = some (.slice A3' n3' c3'))) ∧ Sv w w'))
      (first | exact kept2_draw S0 | (refine kept2_draw ?_; repeat (first | exact S0 | refine kept2_alloc ?_ _)) | fail)
      (first
        | (go_at_call 27; (with_reducible refine (O1.out _).mono ?_); rintro e w11 ⟨rfl, rfl⟩)
        | (go_at_call 27; (with_reducible refine (O2.out _).mono ?_); rintro e w12 ⟨rfl, rfl⟩)
        | fail)
    all_goals
      go_wp2_with fail
      go_meet
      case rel =>
        refine ⟨_, _, rfl, rfl, ?_, ?_, ?_⟩
        · show Mx _ _ _ _ _ _
          refine mx_drew ?_
          repeat (first | (refine mx_newE _ _ _ _ _ _ _ ?_; simp; done) | refine Mx.alloc ?_ _)
        · show Mx _ _ _ _ _ _
          refine mx_drew ?_
          repeat (first | (refine mx_newE _ _ _ _ _ _ _ ?_; simp; done) | refine Mx.alloc ?_ _)
        · show Below _ _ _
          repeat (first | exact L0.out | refine sv_drew ?_ | refine sv_alloc ?_ _)
  case rest =>
    obtain ⟨gx, gy, rfl, rfl, X1, Y1, L1⟩ := hcut
    clear S0 X0 Y0 L0 O1 O2 hW0
    have hg1 := grdH
    have hg2 := grdQ
    by_cases hh : ¬ hid7 h k
    · have HV := Lib.hid (smm_h (l1 := l1) (l2 := l2) (l3 := l3) (m1 := m1) (m2 := m2) (m3 := m3) hh)
      have q1 := neqH_diff hh
      clear hh
      obtain ⟨x0, x1, x2, x3, x4, x5, x6, x7, x8, x9, x10, x11⟩ := X1.out
      obtain ⟨y0, y1, y2, y3, y4, y5, y6, y7, y8, y9, y10, y11⟩ := Y1.out
      go_wp2
      go_ret
      exact ⟨by rw [HV.out]; rfl, L1.out⟩
    have q1 := neqH_eq (Classical.byContradiction hh)
    by_cases hq : ¬ (h.qn = k.qn ∧ h.qt = k.qt)
    · have HV := Lib.hid (smm_q (l1 := l1) (l2 := l2) (l3 := l3) (m1 := m1) (m2 := m2) (m3 := m3) hq)
      have q2 := neqQ_diff hq
      clear hq hh
      obtain ⟨x0, x1, x2, x3, x4, x5, x6, x7, x8, x9, x10, x11⟩ := X1.out
      obtain ⟨y0, y1, y2, y3, y4, y5, y6, y7, y8, y9, y10, y11⟩ := Y1.out
      go_wp2
      go_ret
      exact ⟨by rw [HV.out]; rfl, L1.out⟩
    have q2 := neqQ_eq (Classical.byContradiction hq)
    have HV : Hid (smm h k l1 l2 l3 m1 m2 m3 = (sm l1 m1 && (sm l2 m2 && sm l3 m3))) := by
      show _ = _
      rw [smm, hm_true (Classical.byContradiction hh), qm_true (Classical.byContradiction hq)]
      rfl
    clear hh hq
    have C1 : Hid (∀ W : World, Below w.heap.size w W → Calls Try.prog 28 #[.slice A1 n1 c1, .slice A1' n1' c1'] W fun e w' => e = .returned (.bool (sm l1 m1)) ∧ Below W.heap.size W w') := fun W hW => SameR.impl A1 A1' n1 c1 n1' c1' l1 m1 W (e1.on hW) (g1.on hW) b1 b1'
    have C2 : Hid (∀ W : World, Below w.heap.size w W → Calls Try.prog 28 #[.slice A2 n2 c2, .slice A2' n2' c2'] W fun e w' => e = .returned (.bool (sm l2 m2)) ∧ Below W.heap.size W w') := fun W hW => SameR.impl A2 A2' n2 c2 n2' c2' l2 m2 W (e2.on hW) (g2.on hW) b2 b2'
    have C3 : Hid (∀ W : World, Below w.heap.size w W → Calls Try.prog 28 #[.slice A3 n3 c3, .slice A3' n3' c3'] W fun e w' => e = .returned (.bool (sm l3 m3)) ∧ Below W.heap.size W w') := fun W hW => SameR.impl A3 A3' n3 c3 n3' c3' l3 m3 W (e3.on hW) (g3.on hW) b3 b3'
    clear e1 e2 e3 g1 g2 g3
    generalize sm l1 m1 = qa at *
    generalize sm l2 m2 = qb at *
    generalize sm l3 m3 = qc at *
    obtain ⟨x0, x1, x2, x3, x4, x5, x6, x7, x8, x9, x10, x11⟩ := X1.out
    obtain ⟨y0, y1, y2, y3, y4, y5, y6, y7, y8, y9, y10, y11⟩ := Y1.out
    go_wp2
    clear q1 q2 x0 x1 x2 x3 x4 x5 x6 x7 x8 x9 x10 x11 y0 y1 y2 y3 y4 y5 y6 y7 y8 y9 y10 y11 X1
    go_loopw [27] (fun i wr => ∃ j : Nat, j ≤ 3 ∧ i = .int .i64 j ∧ Hid ((0 < j → qa = true) ∧ (1 < j → qb = true) ∧ (2 < j → qc = true)) ∧ Hid (Mx wr gy k (.slice A1' n1' c1') (.slice A2' n2' c2') (.slice A3' n3' c3')) ∧ Hid (Below w.heap.size w wr)) (fun i _ => 3 - (intOf i).toNat)
    case atStart => exact ⟨0, by omega, rfl, ⟨fun h => by omega, fun h => by omega, fun h => by omega⟩, Y1.out, L1.out⟩
    case round =>
      clear Y1 L1
      obtain ⟨j, hj, rfl, HK, HY, HL⟩ := hrel
      have ix0 := at0 A1 A2 A3 n1 c1 n2 c2 n3 c3
      have ix1 := at1' A1 A2 A3 n1 c1 n2 c2 n3 c3
      have ix2 := at2' A1 A2 A3 n1 c1 n2 c2 n3 c3
      obtain ⟨y0, y1, y2, y3, y4, y5, y6, y7, y8, y9, y10, y11⟩ := HY.out
      rcases j with _ | _ | _ | _ | j
      · cases qa
        · go_wp2_with fail
          refine (C1.out wr HL.out).mono ?_
          rintro e w4 ⟨rfl, hl⟩
          have L4 := Lib.hid (HL.out.trans (hl.mono HL.out.size))
          clear hl HL y0 y1 y2 y3 y4 y5 y6 y7 y8 y9 y10 y11 HY
          go_wp2
          go_ret
          exact ⟨by rw [HV.out]; simp, L4.out⟩
        · go_wp2_with fail
          refine (C1.out wr HL.out).mono ?_
          rintro e w4 ⟨rfl, hl⟩
          have L4 := Lib.hid (HL.out.trans (hl.mono HL.out.size))
          have Y4 := Lib.hid (HY.out.below hl)
          clear hl HL y0 y1 y2 y3 y4 y5 y6 y7 y8 y9 y10 y11 HY
          go_wp2
          go_roundw
          case rel => exact ⟨1, by omega, by first | rfl | go_num, ⟨fun hh => (by first | rfl | trivial | (exfalso; omega) | exact HK.out.1 (by omega)), fun hh => (by first | rfl | trivial | (exfalso; omega) | exact HK.out.2.1 (by omega)), fun hh => (by first | rfl | trivial | (exfalso; omega) | exact HK.out.2.2 (by omega))⟩, Y4.out, L4.out⟩
          case measure => simp [intOf]
      · cases qb
        · go_wp2_with fail
          refine (C2.out wr HL.out).mono ?_
          rintro e w4 ⟨rfl, hl⟩
          have L4 := Lib.hid (HL.out.trans (hl.mono HL.out.size))
          clear hl HL y0 y1 y2 y3 y4 y5 y6 y7 y8 y9 y10 y11 HY
          go_wp2
          go_ret
          exact ⟨by rw [HV.out]; simp, L4.out⟩
        · go_wp2_with fail
          refine (C2.out wr HL.out).mono ?_
          rintro e w4 ⟨rfl, hl⟩
          have L4 := Lib.hid (HL.out.trans (hl.mono HL.out.size))
          have Y4 := Lib.hid (HY.out.below hl)
          clear hl HL y0 y1 y2 y3 y4 y5 y6 y7 y8 y9 y10 y11 HY
          go_wp2
          go_roundw
          case rel => exact ⟨2, by omega, by first | rfl | go_num, ⟨fun hh => (by first | rfl | trivial | (exfalso; omega) | exact HK.out.1 (by omega)), fun hh => (by first | rfl | trivial | (exfalso; omega) | exact HK.out.2.1 (by omega)), fun hh => (by first | rfl | trivial | (exfalso; omega) | exact HK.out.2.2 (by omega))⟩, Y4.out, L4.out⟩
          case measure => simp [intOf]
      · cases qc
        · go_wp2_with fail
          refine (C3.out wr HL.out).mono ?_
          rintro e w4 ⟨rfl, hl⟩
          have L4 := Lib.hid (HL.out.trans (hl.mono HL.out.size))
          clear hl HL y0 y1 y2 y3 y4 y5 y6 y7 y8 y9 y10 y11 HY
          go_wp2
          go_ret
          exact ⟨by rw [HV.out]; simp, L4.out⟩
        · go_wp2_with fail
          refine (C3.out wr HL.out).mono ?_
          rintro e w4 ⟨rfl, hl⟩
          have L4 := Lib.hid (HL.out.trans (hl.mono HL.out.size))
          have Y4 := Lib.hid (HY.out.below hl)
          clear hl HL y0 y1 y2 y3 y4 y5 y6 y7 y8 y9 y10 y11 HY
          go_wp2
          go_roundw
          case rel => exact ⟨3, by omega, by first | rfl | go_num, ⟨fun hh => (by first | rfl | trivial | (exfalso; omega) | exact HK.out.1 (by omega)), fun hh => (by first | rfl | trivial | (exfalso; omega) | exact HK.out.2.1 (by omega)), fun hh => (by first | rfl | trivial | (exfalso; omega) | exact HK.out.2.2 (by omega))⟩, Y4.out, L4.out⟩
          case measure => simp [intOf]
      · have HF : Hid (qa = true ∧ qb = true ∧ qc = true) := ⟨HK.out.1 (by omega), HK.out.2.1 (by omega), HK.out.2.2 (by omega)⟩
        go_wp2
        go_ret
        exact ⟨by rw [HV.out, HF.out.1, HF.out.2.1, HF.out.2.2]; rfl, HL.out⟩
      · omega
end Go.Proofs.Ytbjhkhmhmldjoaa.SamN
