/- What the law's own helpers eqByteS, markByteS and heldByteS do on slices of bytes. Condition: fewer than 400000001 bytes. -/
import Derived.Test.YtlakegeabnjegaaGreatDoorMsgsP1
import Derived.Deep.RegionHeld3
import Derived.Deep.DeepCutAuto
import Derived.Test.YtlakegeabnjegaaGreatDoorMem
import Derived.Deep.QuietTactic
import Derived.BigQuiet
/- What the program's SameMsg does. Condition: fewer than 400000001 records in each section. -/
namespace Go.Proofs.YtlakegeabnjegaaGreatDoor.SamN
open Go.RowKit Go.Proofs.YtlakegeabnjegaaGreatDoor.Mem Go.Proofs.YtlakegeabnjegaaGreatDoor.MemR Go.Proofs.YtlakegeabnjegaaGreatDoor.BoxR Go.Proofs.YtlakegeabnjegaaGreatDoor.MemM Go.Proofs.YtlakegeabnjegaaGreatDoor.ResM Go.Proofs.YtlakegeabnjegaaGreatDoor.SameR Go.Proofs.YtlakegeabnjegaaGreatDoor.OfM Go.Proofs.YtlakegeabnjegaaGreatDoor.SamM

theorem kept2_alloc {w0 w : World} {g k : Nat} {h j : Hd} {x y z a b c : Value} (m : (Mx w g h x y z ∧ Mx w k j a b c) ∧ Sv w0 w) (o : Obj) : (Mx (w.alloc o) g h x y z ∧ Mx (w.alloc o) k j a b c) ∧ Sv w0 (w.alloc o) := kept2 m ((Below.refl _ _).alloc (Nat.le_refl _) _)

theorem sv_alloc {w W : World} (m : Below w.heap.size w W) (o : Obj) : Below w.heap.size w (W.alloc o) := m.alloc m.size o
theorem sv_drew {w W : World} (m : Below w.heap.size w W) : Below w.heap.size w W.drew := m.drew
theorem mx_drew {w : World} {g : Nat} {h : Hd} {x y z : Value} (m : Mx w g h x y z) : Mx w.drew g h x y z := m.below ((Below.refl _ _).drew)
theorem mx_newE (w : World) (t : TypeId) (h : Hd) (x y z : Value) (g : Nat) (e : w.heap.size = g) : Mx (w.alloc (.cells #[.int .i64 h.id, .bool h.rp, .bool h.au, .bool h.ct, .bool h.wa, .bool h.ca, .int .i64 h.code, .string h.qn, .int .i64 h.qt, x, y, z] t)) g h x y z := e ▸ mx_new w t h x y z
theorem neqH_eq {h k : Hd} (e : hid7 h k) (w : World) : Sem.run Tryz.prog (binOp .neq 51 (.agg #[.int .i64 h.id, .bool h.rp, .bool h.au, .bool h.ct, .bool h.wa, .bool h.ca, .int .i64 h.code]) (.agg #[.int .i64 k.id, .bool k.rp, .bool k.au, .bool k.ct, .bool k.wa, .bool k.ca, .int .i64 k.code])) w = .ok (.bool false) w := by
  obtain ⟨e1, e2, e3, e4, e5, e6, e7⟩ := e
  rw [e1, e2, e3, e4, e5, e6, e7]
  exact neqH_same k w
theorem neqQ_eq {s t : ByteArray} {n m : Int} (e : s = t ∧ n = m) (w : World) : Sem.run Tryz.prog (binOp .neq 25 (.agg #[.string s, .int .i64 n]) (.agg #[.string t, .int .i64 m])) w = .ok (.bool false) w := by
  obtain ⟨rfl, rfl⟩ := e
  exact neqQ_same s n w

set_option maxHeartbeats 2000000 in
/-- messageOf with the very world behind it. -/
theorem ofX (h : Hd) (A1 A2 A3 : Option Addr) (n1 c1 n2 c2 n3 c3 : Nat) (w : World) : Calls Tryz.prog 29 #[.agg #[.int .i64 h.id, .bool h.rp, .bool h.au, .bool h.ct, .bool h.wa, .bool h.ca, .int .i64 h.code, .string h.qn, .int .i64 h.qt, .slice A1 n1 c1, .slice A2 n2 c2, .slice A3 n3 c3]] w fun e w' => e = .returned (.agg #[.int .i64 h.id, .bool h.rp, .bool h.au, .bool h.ct, .bool h.wa, .bool h.ca, .int .i64 h.code, .string h.qn, .int .i64 h.qt, .slice A1 n1 c1, .slice A2 n2 c2, .slice A3 n3 c3]) ∧ w' = (w.alloc (.cells #[.int .i64 h.id, .bool h.rp, .bool h.au, .bool h.ct, .bool h.wa, .bool h.ca, .int .i64 h.code, .string h.qn, .int .i64 h.qt, .slice A1 n1 c1, .slice A2 n2 c2, .slice A3 n3 c3] 28)).alloc (.cells #[.int .i64 h.id, .bool h.rp, .bool h.au, .bool h.ct, .bool h.wa, .bool h.ca, .int .i64 h.code, .string h.qn, .int .i64 h.qt, .slice A1 n1 c1, .slice A2 n2 c2, .slice A3 n3 c3] 54) := by
  go_enter Tryz.func29, Tryz.ntmps29
  go_wp2
  exact bodyPost_ret (v := .agg #[.int .i64 h.id, .bool h.rp, .bool h.au, .bool h.ct, .bool h.wa, .bool h.ca, .int .i64 h.code, .string h.qn, .int .i64 h.qt, .slice A1 n1 c1, .slice A2 n2 c2, .slice A3 n3 c3]) (by simp [results, Tryz.results29, go_sem]) rfl ⟨rfl, rfl⟩

set_option maxRecDepth 100000 in
set_option maxHeartbeats 16000000 in
theorem same (h k : Hd) (A1 A1' : Option Addr) (n1 n1' c1 c1' : Nat) (l1 m1 : List Rec) (A2 A2' : Option Addr) (n2 n2' c2 c2' : Nat) (l2 m2 : List Rec) (A3 A3' : Option Addr) (n3 n3' c3 c3' : Nat) (l3 m3 : List Rec) (w : World) (e1 : Sr w w.heap.size A1 n1 l1) (g1 : Sr w w.heap.size A1' n1' m1) (b1 : n1 ≤ 400000000) (b1' : n1' ≤ 400000000) (e2 : Sr w w.heap.size A2 n2 l2) (g2 : Sr w w.heap.size A2' n2' m2) (b2 : n2 ≤ 400000000) (b2' : n2' ≤ 400000000) (e3 : Sr w w.heap.size A3 n3 l3) (g3 : Sr w w.heap.size A3' n3' m3) (b3 : n3 ≤ 400000000) (b3' : n3' ≤ 400000000) : Calls Tryz.prog 13 #[.agg #[.int .i64 h.id, .bool h.rp, .bool h.au, .bool h.ct, .bool h.wa, .bool h.ca, .int .i64 h.code, .string h.qn, .int .i64 h.qt, .slice A1 n1 c1, .slice A2 n2 c2, .slice A3 n3 c3], .agg #[.int .i64 k.id, .bool k.rp, .bool k.au, .bool k.ct, .bool k.wa, .bool k.ca, .int .i64 k.code, .string k.qn, .int .i64 k.qt, .slice A1' n1' c1', .slice A2' n2' c2', .slice A3' n3' c3']] w fun e w' => e = .returned (.bool (smm h k l1 l2 l3 m1 m2 m3)) ∧ Below w.heap.size w w' := by
  have X0 := Lib.hid ((mx_new w 28 h (.slice A1 n1 c1) (.slice A2 n2 c2) (.slice A3 n3 c3)).alloc (.cells #[.int .i64 k.id, .bool k.rp, .bool k.au, .bool k.ct, .bool k.wa, .bool k.ca, .int .i64 k.code, .string k.qn, .int .i64 k.qt, .slice A1' n1' c1', .slice A2' n2' c2', .slice A3' n3' c3'] 28))
  have Y0 := Lib.hid (mx_of (h := k) (x := .slice A1' n1' c1') (y := .slice A2' n2' c2') (z := .slice A3' n3' c3') (at2 (w := w) (a := .cells #[.int .i64 h.id, .bool h.rp, .bool h.au, .bool h.ct, .bool h.wa, .bool h.ca, .int .i64 h.code, .string h.qn, .int .i64 h.qt, .slice A1 n1 c1, .slice A2 n2 c2, .slice A3 n3 c3] 28) (cs := #[.int .i64 k.id, .bool k.rp, .bool k.au, .bool k.ct, .bool k.wa, .bool k.ca, .int .i64 k.code, .string k.qn, .int .i64 k.qt, .slice A1' n1' c1', .slice A2' n2' c2', .slice A3' n3' c3']) (t := 28)))
  have L0 := Lib.hid (((Below.refl w.heap.size w).alloc (Nat.le_refl _) (.cells #[.int .i64 h.id, .bool h.rp, .bool h.au, .bool h.ct, .bool h.wa, .bool h.ca, .int .i64 h.code, .string h.qn, .int .i64 h.qt, .slice A1 n1 c1, .slice A2 n2 c2, .slice A3 n3 c3] 28)).alloc (by simp) (.cells #[.int .i64 k.id, .bool k.rp, .bool k.au, .bool k.ct, .bool k.wa, .bool k.ca, .int .i64 k.code, .string k.qn, .int .i64 k.qt, .slice A1' n1' c1', .slice A2' n2' c2', .slice A3' n3' c3'] 28))
  have O1 := Lib.hid (ofX h A1 A2 A3 n1 c1 n2 c2 n3 c3)
  have O2 := Lib.hid (ofX k A1' A2' A3' n1' c1' n2' c2' n3' c3')
  generalize hW0 : ((w.alloc (.cells #[.int .i64 h.id, .bool h.rp, .bool h.au, .bool h.ct, .bool h.wa, .bool h.ca, .int .i64 h.code, .string h.qn, .int .i64 h.qt, .slice A1 n1 c1, .slice A2 n2 c2, .slice A3 n3 c3] 28)).alloc (.cells #[.int .i64 k.id, .bool k.rp, .bool k.au, .bool k.ct, .bool k.wa, .bool k.ca, .int .i64 k.code, .string k.qn, .int .i64 k.qt, .slice A1' n1' c1', .slice A2' n2' c2', .slice A3' n3' c3'] 28)) = W0 at X0 Y0 L0
  have S0 : (((W0.cell? ⟨w.heap.size, 0, none⟩ = some (.int .i64 h.id) ∧ W0.cell? ⟨w.heap.size, 1, none⟩ = some (.bool h.rp) ∧ W0.cell? ⟨w.heap.size, 2, none⟩ = some (.bool h.au) ∧ W0.cell? ⟨w.heap.size, 3, none⟩ = some (.bool h.ct) ∧ W0.cell? ⟨w.heap.size, 4, none⟩ = some (.bool h.wa) ∧ W0.cell? ⟨w.heap.size, 5, none⟩ = some (.bool h.ca) ∧ W0.cell? ⟨w.heap.size, 6, none⟩ = some (.int .i64 h.code) ∧ W0.cell? ⟨w.heap.size, 7, none⟩ = some (.string h.qn) ∧ W0.cell? ⟨w.heap.size, 8, none⟩ = some (.int .i64 h.qt) ∧ W0.cell? ⟨w.heap.size, 9, none⟩ = some (.slice A1 n1 c1) ∧ W0.cell? ⟨w.heap.size, 10, none⟩ = some (.slice A2 n2 c2) ∧ W0.cell? ⟨w.heap.size, 11, none⟩ = some (.slice A3 n3 c3)) ∧ (W0.cell? ⟨(w.heap.size + 1), 0, none⟩ = some (.int .i64 k.id) ∧ W0.cell? ⟨(w.heap.size + 1), 1, none⟩ = some (.bool k.rp) ∧ W0.cell? ⟨(w.heap.size + 1), 2, none⟩ = some (.bool k.au) ∧ W0.cell? ⟨(w.heap.size + 1), 3, none⟩ = some (.bool k.ct) ∧ W0.cell? ⟨(w.heap.size + 1), 4, none⟩ = some (.bool k.wa) ∧ W0.cell? ⟨(w.heap.size + 1), 5, none⟩ = some (.bool k.ca) ∧ W0.cell? ⟨(w.heap.size + 1), 6, none⟩ = some (.int .i64 k.code) ∧ W0.cell? ⟨(w.heap.size + 1), 7, none⟩ = some (.string k.qn) ∧ W0.cell? ⟨(w.heap.size + 1), 8, none⟩ = some (.int .i64 k.qt) ∧ W0.cell? ⟨(w.heap.size + 1), 9, none⟩ = some (.slice A1' n1' c1') ∧ W0.cell? ⟨(w.heap.size + 1), 10, none⟩ = some (.slice A2' n2' c2') ∧ W0.cell? ⟨(w.heap.size + 1), 11, none⟩ = some (.slice A3' n3' c3'))) ∧ Sv w W0) := ⟨⟨X0.out, Y0.out⟩, L0.out⟩
  go_enter Tryz.func13, Tryz.ntmps13
  go_upto_region 1 with (fail)
  go_cut [5, 6] (fun a b wx => ∃ gx gy, a = .pointer (some ⟨gx, 0, none⟩) ∧ b = .pointer (some ⟨gy, 0, none⟩) ∧ Hid (Mx wx gx h (.slice A1 n1 c1) (.slice A2 n2 c2) (.slice A3 n3 c3)) ∧ Hid (Mx wx gy k (.slice A1' n1' c1') (.slice A2' n2' c2') (.slice A3' n3' c3')) ∧ Hid (Below w.heap.size w wx))
  case first =>
    go_region_held3 (fun w' => (((w'.cell? ⟨w.heap.size, 0, none⟩ = some (.int .i64 h.id) ∧ w'.cell? ⟨w.heap.size, 1, none⟩ = some (.bool h.rp) ∧ w'.cell? ⟨w.heap.size, 2, none⟩ = some (.bool h.au) ∧ w'.cell? ⟨w.heap.size, 3, none⟩ = some (.bool h.ct) ∧ w'.cell? ⟨w.heap.size, 4, none⟩ = some (.bool h.wa) ∧ w'.cell? ⟨w.heap.size, 5, none⟩ = some (.bool h.ca) ∧ w'.cell? ⟨w.heap.size, 6, none⟩ = some (.int .i64 h.code) ∧ w'.cell? ⟨w.heap.size, 7, none⟩ = some (.string h.qn) ∧ w'.cell? ⟨w.heap.size, 8, none⟩ = some (.int .i64 h.qt) ∧ w'.cell? ⟨w.heap.size, 9, none⟩ = some (.slice A1 n1 c1) ∧ w'.cell? ⟨w.heap.size, 10, none⟩ = some (.slice A2 n2 c2) ∧ w'.cell? ⟨w.heap.size, 11, none⟩ = some (.slice A3 n3 c3)) ∧ (w'.cell? ⟨(w.heap.size + 1), 0, none⟩ = some (.int .i64 k.id) ∧ w'.cell? ⟨(w.heap.size + 1), 1, none⟩ = some (.bool k.rp) ∧ w'.cell? ⟨(w.heap.size + 1), 2, none⟩ = some (.bool k.au) ∧ w'.cell? ⟨(w.heap.size + 1), 3, none⟩ = some (.bool k.ct) ∧ w'.cell? ⟨(w.heap.size + 1), 4, none⟩ = some (.bool k.wa) ∧ w'.cell? ⟨(w.heap.size + 1), 5, none⟩ = some (.bool k.ca) ∧ w'.cell? ⟨(w.heap.size + 1), 6, none⟩ = some (.int .i64 k.code) ∧ w'.cell? ⟨(w.heap.size + 1), 7, none⟩ = some (.string k.qn) ∧ w'.cell? ⟨(w.heap.size + 1), 8, none⟩ = some (.int .i64 k.qt) ∧ w'.cell? ⟨(w.heap.size + 1), 9, none⟩ = some (.slice A1' n1' c1') ∧ w'.cell? ⟨(w.heap.size + 1), 10, none⟩ = some (.slice A2' n2' c2') ∧ w'.cell? ⟨(w.heap.size + 1), 11, none⟩ = some (.slice A3' n3' c3'))) ∧ Sv w w'))
      (first | exact kept2_draw S0 | (refine kept2_draw ?_; repeat (first | exact S0 | refine kept2_alloc ?_ _)) | fail)
      (first
        | (go_at_call 29; (with_reducible refine (O1.out _).mono ?_); rintro e w11 ⟨rfl, rfl⟩)
        | (go_at_call 29; (with_reducible refine (O2.out _).mono ?_); rintro e w12 ⟨rfl, rfl⟩)
        | fail)
    all_goals
      go_wp2_with fail
      go_meet
      case rel =>
        refine ⟨_, _, rfl, rfl, ?_, ?_, ?_⟩
        · show Mx _ _ _ _ _ _
          refine mx_drew ?_
          repeat (first | (refine mx_newE _ _ _ _ _ _ _ ?_; simp; done) | refine Mx.alloc ?_ _)
        · show Mx _ _ _ _ _ _
          refine mx_drew ?_
          repeat (first | (refine mx_newE _ _ _ _ _ _ _ ?_; simp; done) | refine Mx.alloc ?_ _)
        · show Below _ _ _
          repeat (first | exact L0.out | refine sv_drew ?_ | refine sv_alloc ?_ _)
  case rest =>
    obtain ⟨gx, gy, rfl, rfl, X1, Y1, L1⟩ := hcut
    clear S0 X0 Y0 L0 O1 O2 hW0
    have hg1 := grdH
    have hg2 := grdQ
    by_cases hh : ¬ hid7 h k
    · have HV := Lib.hid (smm_h (l1 := l1) (l2 := l2) (l3 := l3) (m1 := m1) (m2 := m2) (m3 := m3) hh)
      have q1 := neqH_diff hh
      clear hh
      obtain ⟨x0, x1, x2, x3, x4, x5, x6, x7, x8, x9, x10, x11⟩ := X1.out
      obtain ⟨y0, y1, y2, y3, y4, y5, y6, y7, y8, y9, y10, y11⟩ := Y1.out
      go_wp2
      go_ret
      exact ⟨by rw [HV.out]; rfl, L1.out⟩
    have q1 := neqH_eq (Classical.byContradiction hh)
    by_cases hq : ¬ (h.qn = k.qn ∧ h.qt = k.qt)
    · have HV := Lib.hid (smm_q (l1 := l1) (l2 := l2) (l3 := l3) (m1 := m1) (m2 := m2) (m3 := m3) hq)
      have q2 := neqQ_diff hq
      clear hq hh
      obtain ⟨x0, x1, x2, x3, x4, x5, x6, x7, x8, x9, x10, x11⟩ := X1.out
      obtain ⟨y0, y1, y2, y3, y4, y5, y6, y7, y8, y9, y10, y11⟩ := Y1.out
      go_wp2
      go_ret
      exact ⟨by rw [HV.out]; rfl, L1.out⟩
    have q2 := neqQ_eq (Classical.byContradiction hq)
    have HV : Hid (smm h k l1 l2 l3 m1 m2 m3 = (sm l1 m1 && (sm l2 m2 && sm l3 m3))) := by
      show _ = _
      rw [smm, hm_true (Classical.byContradiction hh), qm_true (Classical.byContradiction hq)]
      rfl
    clear hh hq
    have C1 : Hid (∀ W : World, Below w.heap.size w W → Calls Tryz.prog 30 #[.slice A1 n1 c1, .slice A1' n1' c1'] W fun e w' => e = .returned (.bool (sm l1 m1)) ∧ Below W.heap.size W w') := fun W hW => SameR.impl A1 A1' n1 c1 n1' c1' l1 m1 W (e1.on hW) (g1.on hW) b1 b1'
    have C2 : Hid (∀ W : World, Below w.heap.size w W → Calls Tryz.prog 30 #[.slice A2 n2 c2, .slice A2' n2' c2'] W fun e w' => e = .returned (.bool (sm l2 m2)) ∧ Below W.heap.size W w') := fun W hW => SameR.impl A2 A2' n2 c2 n2' c2' l2 m2 W (e2.on hW) (g2.on hW) b2 b2'
    have C3 : Hid (∀ W : World, Below w.heap.size w W → Calls Tryz.prog 30 #[.slice A3 n3 c3, .slice A3' n3' c3'] W fun e w' => e = .returned (.bool (sm l3 m3)) ∧ Below W.heap.size W w') := fun W hW => SameR.impl A3 A3' n3 c3 n3' c3' l3 m3 W (e3.on hW) (g3.on hW) b3 b3'
    clear e1 e2 e3 g1 g2 g3
    generalize sm l1 m1 = qa at *
    generalize sm l2 m2 = qb at *
    generalize sm l3 m3 = qc at *
    obtain ⟨x0, x1, x2, x3, x4, x5, x6, x7, x8, x9, x10, x11⟩ := X1.out
    obtain ⟨y0, y1, y2, y3, y4, y5, y6, y7, y8, y9, y10, y11⟩ := Y1.out
    go_wp2
    clear q1 q2 x0 x1 x2 x3 x4 x5 x6 x7 x8 x9 x10 x11 y0 y1 y2 y3 y4 y5 y6 y7 y8 y9 y10 y11 X1
    go_loopw [27] (fun i wr => ∃ j : Nat, j ≤ 3 ∧ i = .int .i64 j ∧ Hid ((0 < j → qa = true) ∧ (1 < j → qb = true) ∧ (2 < j → qc = true)) ∧ Hid (Mx wr gy k (.slice A1' n1' c1') (.slice A2' n2' c2') (.slice A3' n3' c3')) ∧ Hid (Below w.heap.size w wr)) (fun i _ => 3 - (intOf i).toNat)
    case atStart => exact ⟨0, by omega, rfl, ⟨fun h => by omega, fun h => by omega, fun h => by omega⟩, Y1.out, L1.out⟩
    case round =>
      clear Y1 L1
      obtain ⟨j, hj, rfl, HK, HY, HL⟩ := hrel
      have ix0 := at0 A1 A2 A3 n1 c1 n2 c2 n3 c3
      have ix1 := at1' A1 A2 A3 n1 c1 n2 c2 n3 c3
      have ix2 := at2' A1 A2 A3 n1 c1 n2 c2 n3 c3
      obtain ⟨y0, y1, y2, y3, y4, y5, y6, y7, y8, y9, y10, y11⟩ := HY.out
      rcases j with _ | _ | _ | _ | j
      · cases qa
        · go_wp2_with fail
          refine (C1.out wr HL.out).mono ?_
          rintro e w4 ⟨rfl, hl⟩
          have L4 := Lib.hid (HL.out.trans (hl.mono HL.out.size))
          clear hl HL y0 y1 y2 y3 y4 y5 y6 y7 y8 y9 y10 y11 HY
          go_wp2
          go_ret
          exact ⟨by rw [HV.out]; simp, L4.out⟩
        · go_wp2_with fail
          refine (C1.out wr HL.out).mono ?_
          rintro e w4 ⟨rfl, hl⟩
          have L4 := Lib.hid (HL.out.trans (hl.mono HL.out.size))
          have Y4 := Lib.hid (HY.out.below hl)
          clear hl HL y0 y1 y2 y3 y4 y5 y6 y7 y8 y9 y10 y11 HY
          go_wp2
          go_roundw
          case rel => exact ⟨1, by omega, by first | rfl | go_num, ⟨fun hh => (by first | rfl | trivial | (exfalso; omega) | exact HK.out.1 (by omega)), fun hh => (by first | rfl | trivial | (exfalso; omega) | exact HK.out.2.1 (by omega)), fun hh => (by first | rfl | trivial | (exfalso; omega) | exact HK.out.2.2 (by omega))⟩, Y4.out, L4.out⟩
          case measure => simp [intOf]
      · cases qb
        · go_wp2_with fail
          refine (C2.out wr HL.out).mono ?_
          rintro e w4 ⟨rfl, hl⟩
          have L4 := Lib.hid (HL.out.trans (hl.mono HL.out.size))
          clear hl HL y0 y1 y2 y3 y4 y5 y6 y7 y8 y9 y10 y11 HY
          go_wp2
          go_ret
          exact ⟨by rw [HV.out]; simp, L4.out⟩
        · go_wp2_with fail
          refine (C2.out wr HL.out).mono ?_
          rintro e w4 ⟨rfl, hl⟩
          have L4 := Lib.hid (HL.out.trans (hl.mono HL.out.size))
          have Y4 := Lib.hid (HY.out.below hl)
          clear hl HL y0 y1 y2 y3 y4 y5 y6 y7 y8 y9 y10 y11 HY
          go_wp2
          go_roundw
          case rel => exact ⟨2, by omega, by first | rfl | go_num, ⟨fun hh => (by first | rfl | trivial | (exfalso; omega) | exact HK.out.1 (by omega)), fun hh => (by first | rfl | trivial | (exfalso; omega) | exact HK.out.2.1 (by omega)), fun hh => (by first | rfl | trivial | (exfalso; omega) | exact HK.out.2.2 (by omega))⟩, Y4.out, L4.out⟩
          case measure => simp [intOf]
      · cases qc
        · go_wp2_with fail
          refine (C3.out wr HL.out).mono ?_
          rintro e w4 ⟨rfl, hl⟩
          have L4 := Lib.hid (HL.out.trans (hl.mono HL.out.size))
          clear hl HL y0 y1 y2 y3 y4 y5 y6 y7 y8 y9 y10 y11 HY
          go_wp2
          go_ret
          exact ⟨by rw [HV.out]; simp, L4.out⟩
        · go_wp2_with fail
          refine (C3.out wr HL.out).mono ?_
          rintro e w4 ⟨rfl, hl⟩
          have L4 := Lib.hid (HL.out.trans (hl.mono HL.out.size))
          have Y4 := Lib.hid (HY.out.below hl)
          clear hl HL y0 y1 y2 y3 y4 y5 y6 y7 y8 y9 y10 y11 HY
          go_wp2
          go_roundw
          case rel => exact ⟨3, by omega, by first | rfl | go_num, ⟨fun hh => (by first | rfl | trivial | (exfalso; omega) | exact HK.out.1 (by omega)), fun hh => (by first | rfl | trivial | (exfalso; omega) | exact HK.out.2.1 (by omega)), fun hh => (by first | rfl | trivial | (exfalso; omega) | exact HK.out.2.2 (by omega))⟩, Y4.out, L4.out⟩
          case measure => simp [intOf]
      · have HF : Hid (qa = true ∧ qb = true ∧ qc = true) := ⟨HK.out.1 (by omega), HK.out.2.1 (by omega), HK.out.2.2 (by omega)⟩
        go_wp2
        go_ret
        exact ⟨by rw [HV.out, HF.out.1, HF.out.2.1, HF.out.2.2]; rfl, HL.out⟩
      · omega
end Go.Proofs.YtlakegeabnjegaaGreatDoor.SamN

/- Some ways of sameMsg. -/
namespace Go.Proofs.YtlakegeabnjegaaGreatDoor.SamF
open Go.RowKit Go.Proofs.YtlakegeabnjegaaGreatDoor.Mem Go.Proofs.YtlakegeabnjegaaGreatDoor.MemR Go.Proofs.YtlakegeabnjegaaGreatDoor.BoxR Go.Proofs.YtlakegeabnjegaaGreatDoor.MemM Go.Proofs.YtlakegeabnjegaaGreatDoor.ResM Go.Proofs.YtlakegeabnjegaaGreatDoor.SameR Go.Proofs.YtlakegeabnjegaaGreatDoor.SamM

set_option maxRecDepth 100000 in
set_option maxHeartbeats 4000000 in
theorem lw_f0 (ia : Int) (pa : Bool) (qa : Bool) (ra : Bool) (sa : Bool) (ta : Bool) (da : Int) (nma : ByteArray) (tya : Int) (ib : Int) (pb : Bool) (qb : Bool) (rb : Bool) (sb : Bool) (tb : Bool) (db : Int) (nmb : ByteArray) (tyb : Int) (A1 A1' : Option Addr) (n1 n1' c1 c1' : Nat) (A2 A2' : Option Addr) (n2 n2' c2 c2' : Nat) (A3 A3' : Option Addr) (n3 n3' c3 c3' : Nat) (w : World) (c : ¬ ia = ib) : Calls Tryz.prog 10 #[.agg #[.int .i64 ia, .bool pa, .bool qa, .bool ra, .bool sa, .bool ta, .int .i64 da, .string nma, .int .i64 tya, .slice A1 n1 c1, .slice A2 n2 c2, .slice A3 n3 c3], .agg #[.int .i64 ib, .bool pb, .bool qb, .bool rb, .bool sb, .bool tb, .int .i64 db, .string nmb, .int .i64 tyb, .slice A1' n1' c1', .slice A2' n2' c2', .slice A3' n3' c3']] w fun e w' => e = .returned (.bool false) ∧ Below w.heap.size w w' := by
  have kk := beq_eq_false_iff_ne.2 c
  go_enter Tryz.func10, Tryz.ntmps10
  go_wp2
  go_ret
  exact ⟨rfl, ((Below.refl _ _).alloc (Nat.le_refl _) _).alloc (by simp) _⟩

set_option maxRecDepth 100000 in
set_option maxHeartbeats 4000000 in
theorem lw_f1 (ia : Int) (pa : Bool) (qa : Bool) (ra : Bool) (sa : Bool) (ta : Bool) (da : Int) (nma : ByteArray) (tya : Int) (pb : Bool) (qb : Bool) (rb : Bool) (sb : Bool) (tb : Bool) (db : Int) (nmb : ByteArray) (tyb : Int) (A1 A1' : Option Addr) (n1 n1' c1 c1' : Nat) (A2 A2' : Option Addr) (n2 n2' c2 c2' : Nat) (A3 A3' : Option Addr) (n3 n3' c3 c3' : Nat) (w : World) (c : ¬ pa = pb) : Calls Tryz.prog 10 #[.agg #[.int .i64 ia, .bool pa, .bool qa, .bool ra, .bool sa, .bool ta, .int .i64 da, .string nma, .int .i64 tya, .slice A1 n1 c1, .slice A2 n2 c2, .slice A3 n3 c3], .agg #[.int .i64 ia, .bool pb, .bool qb, .bool rb, .bool sb, .bool tb, .int .i64 db, .string nmb, .int .i64 tyb, .slice A1' n1' c1', .slice A2' n2' c2', .slice A3' n3' c3']] w fun e w' => e = .returned (.bool false) ∧ Below w.heap.size w w' := by
  have kk := beq_eq_false_iff_ne.2 c
  go_enter Tryz.func10, Tryz.ntmps10
  go_wp2
  go_ret
  exact ⟨rfl, ((Below.refl _ _).alloc (Nat.le_refl _) _).alloc (by simp) _⟩

set_option maxRecDepth 100000 in
set_option maxHeartbeats 4000000 in
theorem lw_f2 (ia : Int) (pa : Bool) (qa : Bool) (ra : Bool) (sa : Bool) (ta : Bool) (da : Int) (nma : ByteArray) (tya : Int) (qb : Bool) (rb : Bool) (sb : Bool) (tb : Bool) (db : Int) (nmb : ByteArray) (tyb : Int) (A1 A1' : Option Addr) (n1 n1' c1 c1' : Nat) (A2 A2' : Option Addr) (n2 n2' c2 c2' : Nat) (A3 A3' : Option Addr) (n3 n3' c3 c3' : Nat) (w : World) (c : ¬ qa = qb) : Calls Tryz.prog 10 #[.agg #[.int .i64 ia, .bool pa, .bool qa, .bool ra, .bool sa, .bool ta, .int .i64 da, .string nma, .int .i64 tya, .slice A1 n1 c1, .slice A2 n2 c2, .slice A3 n3 c3], .agg #[.int .i64 ia, .bool pa, .bool qb, .bool rb, .bool sb, .bool tb, .int .i64 db, .string nmb, .int .i64 tyb, .slice A1' n1' c1', .slice A2' n2' c2', .slice A3' n3' c3']] w fun e w' => e = .returned (.bool false) ∧ Below w.heap.size w w' := by
  have kk := beq_eq_false_iff_ne.2 c
  go_enter Tryz.func10, Tryz.ntmps10
  go_wp2
  go_ret
  exact ⟨rfl, ((Below.refl _ _).alloc (Nat.le_refl _) _).alloc (by simp) _⟩

end Go.Proofs.YtlakegeabnjegaaGreatDoor.SamF

/- Some ways of sameMsg. -/
namespace Go.Proofs.YtlakegeabnjegaaGreatDoor.SamG
open Go.RowKit Go.Proofs.YtlakegeabnjegaaGreatDoor.Mem Go.Proofs.YtlakegeabnjegaaGreatDoor.MemR Go.Proofs.YtlakegeabnjegaaGreatDoor.BoxR Go.Proofs.YtlakegeabnjegaaGreatDoor.MemM Go.Proofs.YtlakegeabnjegaaGreatDoor.ResM Go.Proofs.YtlakegeabnjegaaGreatDoor.SameR Go.Proofs.YtlakegeabnjegaaGreatDoor.SamM

set_option maxRecDepth 100000 in
set_option maxHeartbeats 4000000 in
theorem lw_f3 (ia : Int) (pa : Bool) (qa : Bool) (ra : Bool) (sa : Bool) (ta : Bool) (da : Int) (nma : ByteArray) (tya : Int) (rb : Bool) (sb : Bool) (tb : Bool) (db : Int) (nmb : ByteArray) (tyb : Int) (A1 A1' : Option Addr) (n1 n1' c1 c1' : Nat) (A2 A2' : Option Addr) (n2 n2' c2 c2' : Nat) (A3 A3' : Option Addr) (n3 n3' c3 c3' : Nat) (w : World) (c : ¬ ra = rb) : Calls Tryz.prog 10 #[.agg #[.int .i64 ia, .bool pa, .bool qa, .bool ra, .bool sa, .bool ta, .int .i64 da, .string nma, .int .i64 tya, .slice A1 n1 c1, .slice A2 n2 c2, .slice A3 n3 c3], .agg #[.int .i64 ia, .bool pa, .bool qa, .bool rb, .bool sb, .bool tb, .int .i64 db, .string nmb, .int .i64 tyb, .slice A1' n1' c1', .slice A2' n2' c2', .slice A3' n3' c3']] w fun e w' => e = .returned (.bool false) ∧ Below w.heap.size w w' := by
  have kk := beq_eq_false_iff_ne.2 c
  go_enter Tryz.func10, Tryz.ntmps10
  go_wp2
  go_ret
  exact ⟨rfl, ((Below.refl _ _).alloc (Nat.le_refl _) _).alloc (by simp) _⟩

set_option maxRecDepth 100000 in
set_option maxHeartbeats 4000000 in
theorem lw_f4 (ia : Int) (pa : Bool) (qa : Bool) (ra : Bool) (sa : Bool) (ta : Bool) (da : Int) (nma : ByteArray) (tya : Int) (sb : Bool) (tb : Bool) (db : Int) (nmb : ByteArray) (tyb : Int) (A1 A1' : Option Addr) (n1 n1' c1 c1' : Nat) (A2 A2' : Option Addr) (n2 n2' c2 c2' : Nat) (A3 A3' : Option Addr) (n3 n3' c3 c3' : Nat) (w : World) (c : ¬ sa = sb) : Calls Tryz.prog 10 #[.agg #[.int .i64 ia, .bool pa, .bool qa, .bool ra, .bool sa, .bool ta, .int .i64 da, .string nma, .int .i64 tya, .slice A1 n1 c1, .slice A2 n2 c2, .slice A3 n3 c3], .agg #[.int .i64 ia, .bool pa, .bool qa, .bool ra, .bool sb, .bool tb, .int .i64 db, .string nmb, .int .i64 tyb, .slice A1' n1' c1', .slice A2' n2' c2', .slice A3' n3' c3']] w fun e w' => e = .returned (.bool false) ∧ Below w.heap.size w w' := by
  have kk := beq_eq_false_iff_ne.2 c
  go_enter Tryz.func10, Tryz.ntmps10
  go_wp2
  go_ret
  exact ⟨rfl, ((Below.refl _ _).alloc (Nat.le_refl _) _).alloc (by simp) _⟩

set_option maxRecDepth 100000 in
set_option maxHeartbeats 4000000 in
theorem lw_f5 (ia : Int) (pa : Bool) (qa : Bool) (ra : Bool) (sa : Bool) (ta : Bool) (da : Int) (nma : ByteArray) (tya : Int) (tb : Bool) (db : Int) (nmb : ByteArray) (tyb : Int) (A1 A1' : Option Addr) (n1 n1' c1 c1' : Nat) (A2 A2' : Option Addr) (n2 n2' c2 c2' : Nat) (A3 A3' : Option Addr) (n3 n3' c3 c3' : Nat) (w : World) (c : ¬ ta = tb) : Calls Tryz.prog 10 #[.agg #[.int .i64 ia, .bool pa, .bool qa, .bool ra, .bool sa, .bool ta, .int .i64 da, .string nma, .int .i64 tya, .slice A1 n1 c1, .slice A2 n2 c2, .slice A3 n3 c3], .agg #[.int .i64 ia, .bool pa, .bool qa, .bool ra, .bool sa, .bool tb, .int .i64 db, .string nmb, .int .i64 tyb, .slice A1' n1' c1', .slice A2' n2' c2', .slice A3' n3' c3']] w fun e w' => e = .returned (.bool false) ∧ Below w.heap.size w w' := by
  have kk := beq_eq_false_iff_ne.2 c
  go_enter Tryz.func10, Tryz.ntmps10
  go_wp2
  go_ret
  exact ⟨rfl, ((Below.refl _ _).alloc (Nat.le_refl _) _).alloc (by simp) _⟩

end Go.Proofs.YtlakegeabnjegaaGreatDoor.SamG

/- Some ways of sameMsg. -/
namespace Go.Proofs.YtlakegeabnjegaaGreatDoor.SamH
open Go.RowKit Go.Proofs.YtlakegeabnjegaaGreatDoor.Mem Go.Proofs.YtlakegeabnjegaaGreatDoor.MemR Go.Proofs.YtlakegeabnjegaaGreatDoor.BoxR Go.Proofs.YtlakegeabnjegaaGreatDoor.MemM Go.Proofs.YtlakegeabnjegaaGreatDoor.ResM Go.Proofs.YtlakegeabnjegaaGreatDoor.SameR Go.Proofs.YtlakegeabnjegaaGreatDoor.SamM

set_option maxRecDepth 100000 in
set_option maxHeartbeats 4000000 in
theorem lw_f6 (ia : Int) (pa : Bool) (qa : Bool) (ra : Bool) (sa : Bool) (ta : Bool) (da : Int) (nma : ByteArray) (tya : Int) (db : Int) (nmb : ByteArray) (tyb : Int) (A1 A1' : Option Addr) (n1 n1' c1 c1' : Nat) (A2 A2' : Option Addr) (n2 n2' c2 c2' : Nat) (A3 A3' : Option Addr) (n3 n3' c3 c3' : Nat) (w : World) (c : ¬ da = db) : Calls Tryz.prog 10 #[.agg #[.int .i64 ia, .bool pa, .bool qa, .bool ra, .bool sa, .bool ta, .int .i64 da, .string nma, .int .i64 tya, .slice A1 n1 c1, .slice A2 n2 c2, .slice A3 n3 c3], .agg #[.int .i64 ia, .bool pa, .bool qa, .bool ra, .bool sa, .bool ta, .int .i64 db, .string nmb, .int .i64 tyb, .slice A1' n1' c1', .slice A2' n2' c2', .slice A3' n3' c3']] w fun e w' => e = .returned (.bool false) ∧ Below w.heap.size w w' := by
  have kk := beq_eq_false_iff_ne.2 c
  go_enter Tryz.func10, Tryz.ntmps10
  go_wp2
  go_ret
  exact ⟨rfl, ((Below.refl _ _).alloc (Nat.le_refl _) _).alloc (by simp) _⟩

set_option maxRecDepth 100000 in
set_option maxHeartbeats 4000000 in
theorem lw_f7 (ia : Int) (pa : Bool) (qa : Bool) (ra : Bool) (sa : Bool) (ta : Bool) (da : Int) (nma : ByteArray) (tya : Int) (nmb : ByteArray) (tyb : Int) (A1 A1' : Option Addr) (n1 n1' c1 c1' : Nat) (A2 A2' : Option Addr) (n2 n2' c2 c2' : Nat) (A3 A3' : Option Addr) (n3 n3' c3 c3' : Nat) (w : World) (c : ¬ (nma = nmb ∧ tya = tyb)) : Calls Tryz.prog 10 #[.agg #[.int .i64 ia, .bool pa, .bool qa, .bool ra, .bool sa, .bool ta, .int .i64 da, .string nma, .int .i64 tya, .slice A1 n1 c1, .slice A2 n2 c2, .slice A3 n3 c3], .agg #[.int .i64 ia, .bool pa, .bool qa, .bool ra, .bool sa, .bool ta, .int .i64 da, .string nmb, .int .i64 tyb, .slice A1' n1' c1', .slice A2' n2' c2', .slice A3' n3' c3']] w fun e w' => e = .returned (.bool false) ∧ Below w.heap.size w w' := by
  have kk := eqlQ_diff c
  have hg := grdQ
  clear c
  go_enter Tryz.func10, Tryz.ntmps10
  go_wp2
  go_ret
  exact ⟨rfl, ((Below.refl _ _).alloc (Nat.le_refl _) _).alloc (by simp) _⟩

end Go.Proofs.YtlakegeabnjegaaGreatDoor.SamH

/- Some ways of sameMsg. -/
namespace Go.Proofs.YtlakegeabnjegaaGreatDoor.SamI
open Go.RowKit Go.Proofs.YtlakegeabnjegaaGreatDoor.Mem Go.Proofs.YtlakegeabnjegaaGreatDoor.MemR Go.Proofs.YtlakegeabnjegaaGreatDoor.BoxR Go.Proofs.YtlakegeabnjegaaGreatDoor.MemM Go.Proofs.YtlakegeabnjegaaGreatDoor.ResM Go.Proofs.YtlakegeabnjegaaGreatDoor.SameR Go.Proofs.YtlakegeabnjegaaGreatDoor.SamM

set_option maxRecDepth 100000 in
set_option maxHeartbeats 8000000 in
theorem lw_r1 (ia : Int) (pa : Bool) (qa : Bool) (ra : Bool) (sa : Bool) (ta : Bool) (da : Int) (nma : ByteArray) (tya : Int) (A1 A1' : Option Addr) (n1 n1' c1 c1' : Nat) (A2 A2' : Option Addr) (n2 n2' c2 c2' : Nat) (A3 A3' : Option Addr) (n3 n3' c3 c3' : Nat) (w : World) (C1 : ∀ W : World, Below w.heap.size w W → Calls Tryz.prog 27 #[.slice A1 n1 c1, .slice A1' n1' c1'] W fun e w' => e = .returned (.bool false) ∧ Below W.heap.size W w') : Calls Tryz.prog 10 #[.agg #[.int .i64 ia, .bool pa, .bool qa, .bool ra, .bool sa, .bool ta, .int .i64 da, .string nma, .int .i64 tya, .slice A1 n1 c1, .slice A2 n2 c2, .slice A3 n3 c3], .agg #[.int .i64 ia, .bool pa, .bool qa, .bool ra, .bool sa, .bool ta, .int .i64 da, .string nma, .int .i64 tya, .slice A1' n1' c1', .slice A2' n2' c2', .slice A3' n3' c3']] w fun e w' => e = .returned (.bool false) ∧ Below w.heap.size w w' := by
  have hg := grdQ
  have hqs := eqlQ_same nma tya
  have D1 := Lib.hid C1
  clear C1
  have L0 := Lib.hid (((Below.refl w.heap.size w).alloc (Nat.le_refl _) (.cells #[.int .i64 ia, .bool pa, .bool qa, .bool ra, .bool sa, .bool ta, .int .i64 da, .string nma, .int .i64 tya, .slice A1 n1 c1, .slice A2 n2 c2, .slice A3 n3 c3] 28)).alloc (by simp) (.cells #[.int .i64 ia, .bool pa, .bool qa, .bool ra, .bool sa, .bool ta, .int .i64 da, .string nma, .int .i64 tya, .slice A1' n1' c1', .slice A2' n2' c2', .slice A3' n3' c3'] 28))
  have X0 : Hid (Mx ((w.alloc (.cells #[.int .i64 ia, .bool pa, .bool qa, .bool ra, .bool sa, .bool ta, .int .i64 da, .string nma, .int .i64 tya, .slice A1 n1 c1, .slice A2 n2 c2, .slice A3 n3 c3] 28)).alloc (.cells #[.int .i64 ia, .bool pa, .bool qa, .bool ra, .bool sa, .bool ta, .int .i64 da, .string nma, .int .i64 tya, .slice A1' n1' c1', .slice A2' n2' c2', .slice A3' n3' c3'] 28)) w.heap.size ⟨ia, pa, qa, ra, sa, ta, da, nma, tya⟩ (.slice A1 n1 c1) (.slice A2 n2 c2) (.slice A3 n3 c3)) := (mx_new w 28 ⟨ia, pa, qa, ra, sa, ta, da, nma, tya⟩ (.slice A1 n1 c1) (.slice A2 n2 c2) (.slice A3 n3 c3)).alloc _
  have Y0 : Hid (Mx ((w.alloc (.cells #[.int .i64 ia, .bool pa, .bool qa, .bool ra, .bool sa, .bool ta, .int .i64 da, .string nma, .int .i64 tya, .slice A1 n1 c1, .slice A2 n2 c2, .slice A3 n3 c3] 28)).alloc (.cells #[.int .i64 ia, .bool pa, .bool qa, .bool ra, .bool sa, .bool ta, .int .i64 da, .string nma, .int .i64 tya, .slice A1' n1' c1', .slice A2' n2' c2', .slice A3' n3' c3'] 28)) (w.heap.size + 1) ⟨ia, pa, qa, ra, sa, ta, da, nma, tya⟩ (.slice A1' n1' c1') (.slice A2' n2' c2') (.slice A3' n3' c3')) := mx_of (h := ⟨ia, pa, qa, ra, sa, ta, da, nma, tya⟩) (x := .slice A1' n1' c1') (y := .slice A2' n2' c2') (z := .slice A3' n3' c3') at2
  go_enter Tryz.func10, Tryz.ntmps10
  go_wp2_with fail
  refine (D1.out _ L0.out).mono ?_
  rintro e w1 ⟨rfl, hl⟩
  have L1 := Lib.hid (L0.out.trans (hl.mono L0.out.size))
  have X1 := Lib.hid (X0.out.below hl)
  have Y1 := Lib.hid (Y0.out.below hl)
  clear hl L0 X0 Y0 
  go_wp2
  go_ret
  exact ⟨rfl, L1.out⟩

set_option maxRecDepth 100000 in
set_option maxHeartbeats 8000000 in
theorem lw_r2 (ia : Int) (pa : Bool) (qa : Bool) (ra : Bool) (sa : Bool) (ta : Bool) (da : Int) (nma : ByteArray) (tya : Int) (A1 A1' : Option Addr) (n1 n1' c1 c1' : Nat) (A2 A2' : Option Addr) (n2 n2' c2 c2' : Nat) (A3 A3' : Option Addr) (n3 n3' c3 c3' : Nat) (w : World) (C1 : ∀ W : World, Below w.heap.size w W → Calls Tryz.prog 27 #[.slice A1 n1 c1, .slice A1' n1' c1'] W fun e w' => e = .returned (.bool true) ∧ Below W.heap.size W w') (C2 : ∀ W : World, Below w.heap.size w W → Calls Tryz.prog 27 #[.slice A2 n2 c2, .slice A2' n2' c2'] W fun e w' => e = .returned (.bool false) ∧ Below W.heap.size W w') : Calls Tryz.prog 10 #[.agg #[.int .i64 ia, .bool pa, .bool qa, .bool ra, .bool sa, .bool ta, .int .i64 da, .string nma, .int .i64 tya, .slice A1 n1 c1, .slice A2 n2 c2, .slice A3 n3 c3], .agg #[.int .i64 ia, .bool pa, .bool qa, .bool ra, .bool sa, .bool ta, .int .i64 da, .string nma, .int .i64 tya, .slice A1' n1' c1', .slice A2' n2' c2', .slice A3' n3' c3']] w fun e w' => e = .returned (.bool false) ∧ Below w.heap.size w w' := by
  have hg := grdQ
  have hqs := eqlQ_same nma tya
  have D1 := Lib.hid C1
  have D2 := Lib.hid C2
  clear C1 C2
  have L0 := Lib.hid (((Below.refl w.heap.size w).alloc (Nat.le_refl _) (.cells #[.int .i64 ia, .bool pa, .bool qa, .bool ra, .bool sa, .bool ta, .int .i64 da, .string nma, .int .i64 tya, .slice A1 n1 c1, .slice A2 n2 c2, .slice A3 n3 c3] 28)).alloc (by simp) (.cells #[.int .i64 ia, .bool pa, .bool qa, .bool ra, .bool sa, .bool ta, .int .i64 da, .string nma, .int .i64 tya, .slice A1' n1' c1', .slice A2' n2' c2', .slice A3' n3' c3'] 28))
  have X0 : Hid (Mx ((w.alloc (.cells #[.int .i64 ia, .bool pa, .bool qa, .bool ra, .bool sa, .bool ta, .int .i64 da, .string nma, .int .i64 tya, .slice A1 n1 c1, .slice A2 n2 c2, .slice A3 n3 c3] 28)).alloc (.cells #[.int .i64 ia, .bool pa, .bool qa, .bool ra, .bool sa, .bool ta, .int .i64 da, .string nma, .int .i64 tya, .slice A1' n1' c1', .slice A2' n2' c2', .slice A3' n3' c3'] 28)) w.heap.size ⟨ia, pa, qa, ra, sa, ta, da, nma, tya⟩ (.slice A1 n1 c1) (.slice A2 n2 c2) (.slice A3 n3 c3)) := (mx_new w 28 ⟨ia, pa, qa, ra, sa, ta, da, nma, tya⟩ (.slice A1 n1 c1) (.slice A2 n2 c2) (.slice A3 n3 c3)).alloc _
  have Y0 : Hid (Mx ((w.alloc (.cells #[.int .i64 ia, .bool pa, .bool qa, .bool ra, .bool sa, .bool ta, .int .i64 da, .string nma, .int .i64 tya, .slice A1 n1 c1, .slice A2 n2 c2, .slice A3 n3 c3] 28)).alloc (.cells #[.int .i64 ia, .bool pa, .bool qa, .bool ra, .bool sa, .bool ta, .int .i64 da, .string nma, .int .i64 tya, .slice A1' n1' c1', .slice A2' n2' c2', .slice A3' n3' c3'] 28)) (w.heap.size + 1) ⟨ia, pa, qa, ra, sa, ta, da, nma, tya⟩ (.slice A1' n1' c1') (.slice A2' n2' c2') (.slice A3' n3' c3')) := mx_of (h := ⟨ia, pa, qa, ra, sa, ta, da, nma, tya⟩) (x := .slice A1' n1' c1') (y := .slice A2' n2' c2') (z := .slice A3' n3' c3') at2
  go_enter Tryz.func10, Tryz.ntmps10
  go_wp2_with fail
  refine (D1.out _ L0.out).mono ?_
  rintro e w1 ⟨rfl, hl⟩
  have L1 := Lib.hid (L0.out.trans (hl.mono L0.out.size))
  have X1 := Lib.hid (X0.out.below hl)
  have Y1 := Lib.hid (Y0.out.below hl)
  clear hl L0 X0 Y0 
  obtain ⟨x0, x1, x2, x3, x4, x5, x6, x7, x8, x9, x10, x11⟩ := X1.out
  obtain ⟨y0, y1, y2, y3, y4, y5, y6, y7, y8, y9, y10, y11⟩ := Y1.out
  go_wp2_with fail
  refine (D2.out _ L1.out).mono ?_
  rintro e w2 ⟨rfl, hl⟩
  have L2 := Lib.hid (L1.out.trans (hl.mono L1.out.size))
  have X2 := Lib.hid (X1.out.below hl)
  have Y2 := Lib.hid (Y1.out.below hl)
  clear hl L1 X1 Y1 x0 x1 x2 x3 x4 x5 x6 x7 x8 x9 x10 x11 y0 y1 y2 y3 y4 y5 y6 y7 y8 y9 y10 y11
  go_wp2
  go_ret
  exact ⟨rfl, L2.out⟩

end Go.Proofs.YtlakegeabnjegaaGreatDoor.SamI

/- Some ways of sameMsg. -/
namespace Go.Proofs.YtlakegeabnjegaaGreatDoor.SamJ
open Go.RowKit Go.Proofs.YtlakegeabnjegaaGreatDoor.Mem Go.Proofs.YtlakegeabnjegaaGreatDoor.MemR Go.Proofs.YtlakegeabnjegaaGreatDoor.BoxR Go.Proofs.YtlakegeabnjegaaGreatDoor.MemM Go.Proofs.YtlakegeabnjegaaGreatDoor.ResM Go.Proofs.YtlakegeabnjegaaGreatDoor.SameR Go.Proofs.YtlakegeabnjegaaGreatDoor.SamM

set_option maxRecDepth 100000 in
set_option maxHeartbeats 8000000 in
theorem lw_r3 (ia : Int) (pa : Bool) (qa : Bool) (ra : Bool) (sa : Bool) (ta : Bool) (da : Int) (nma : ByteArray) (tya : Int) (A1 A1' : Option Addr) (n1 n1' c1 c1' : Nat) (A2 A2' : Option Addr) (n2 n2' c2 c2' : Nat) (A3 A3' : Option Addr) (n3 n3' c3 c3' : Nat) (w : World) (u : Bool) (C1 : ∀ W : World, Below w.heap.size w W → Calls Tryz.prog 27 #[.slice A1 n1 c1, .slice A1' n1' c1'] W fun e w' => e = .returned (.bool true) ∧ Below W.heap.size W w') (C2 : ∀ W : World, Below w.heap.size w W → Calls Tryz.prog 27 #[.slice A2 n2 c2, .slice A2' n2' c2'] W fun e w' => e = .returned (.bool true) ∧ Below W.heap.size W w') (C3 : ∀ W : World, Below w.heap.size w W → Calls Tryz.prog 27 #[.slice A3 n3 c3, .slice A3' n3' c3'] W fun e w' => e = .returned (.bool u) ∧ Below W.heap.size W w') : Calls Tryz.prog 10 #[.agg #[.int .i64 ia, .bool pa, .bool qa, .bool ra, .bool sa, .bool ta, .int .i64 da, .string nma, .int .i64 tya, .slice A1 n1 c1, .slice A2 n2 c2, .slice A3 n3 c3], .agg #[.int .i64 ia, .bool pa, .bool qa, .bool ra, .bool sa, .bool ta, .int .i64 da, .string nma, .int .i64 tya, .slice A1' n1' c1', .slice A2' n2' c2', .slice A3' n3' c3']] w fun e w' => e = .returned (.bool u) ∧ Below w.heap.size w w' := by
  have hg := grdQ
  have hqs := eqlQ_same nma tya
  have D1 := Lib.hid C1
  have D2 := Lib.hid C2
  have D3 := Lib.hid C3
  clear C1 C2 C3
  have L0 := Lib.hid (((Below.refl w.heap.size w).alloc (Nat.le_refl _) (.cells #[.int .i64 ia, .bool pa, .bool qa, .bool ra, .bool sa, .bool ta, .int .i64 da, .string nma, .int .i64 tya, .slice A1 n1 c1, .slice A2 n2 c2, .slice A3 n3 c3] 28)).alloc (by simp) (.cells #[.int .i64 ia, .bool pa, .bool qa, .bool ra, .bool sa, .bool ta, .int .i64 da, .string nma, .int .i64 tya, .slice A1' n1' c1', .slice A2' n2' c2', .slice A3' n3' c3'] 28))
  have X0 : Hid (Mx ((w.alloc (.cells #[.int .i64 ia, .bool pa, .bool qa, .bool ra, .bool sa, .bool ta, .int .i64 da, .string nma, .int .i64 tya, .slice A1 n1 c1, .slice A2 n2 c2, .slice A3 n3 c3] 28)).alloc (.cells #[.int .i64 ia, .bool pa, .bool qa, .bool ra, .bool sa, .bool ta, .int .i64 da, .string nma, .int .i64 tya, .slice A1' n1' c1', .slice A2' n2' c2', .slice A3' n3' c3'] 28)) w.heap.size ⟨ia, pa, qa, ra, sa, ta, da, nma, tya⟩ (.slice A1 n1 c1) (.slice A2 n2 c2) (.slice A3 n3 c3)) := (mx_new w 28 ⟨ia, pa, qa, ra, sa, ta, da, nma, tya⟩ (.slice A1 n1 c1) (.slice A2 n2 c2) (.slice A3 n3 c3)).alloc _
  have Y0 : Hid (Mx ((w.alloc (.cells #[.int .i64 ia, .bool pa, .bool qa, .bool ra, .bool sa, .bool ta, .int .i64 da, .string nma, .int .i64 tya, .slice A1 n1 c1, .slice A2 n2 c2, .slice A3 n3 c3] 28)).alloc (.cells #[.int .i64 ia, .bool pa, .bool qa, .bool ra, .bool sa, .bool ta, .int .i64 da, .string nma, .int .i64 tya, .slice A1' n1' c1', .slice A2' n2' c2', .slice A3' n3' c3'] 28)) (w.heap.size + 1) ⟨ia, pa, qa, ra, sa, ta, da, nma, tya⟩ (.slice A1' n1' c1') (.slice A2' n2' c2') (.slice A3' n3' c3')) := mx_of (h := ⟨ia, pa, qa, ra, sa, ta, da, nma, tya⟩) (x := .slice A1' n1' c1') (y := .slice A2' n2' c2') (z := .slice A3' n3' c3') at2
  go_enter Tryz.func10, Tryz.ntmps10
  go_wp2_with fail
  refine (D1.out _ L0.out).mono ?_
  rintro e w1 ⟨rfl, hl⟩
  have L1 := Lib.hid (L0.out.trans (hl.mono L0.out.size))
  have X1 := Lib.hid (X0.out.below hl)
  have Y1 := Lib.hid (Y0.out.below hl)
  clear hl L0 X0 Y0 
  obtain ⟨x0, x1, x2, x3, x4, x5, x6, x7, x8, x9, x10, x11⟩ := X1.out
  obtain ⟨y0, y1, y2, y3, y4, y5, y6, y7, y8, y9, y10, y11⟩ := Y1.out
  go_wp2_with fail
  refine (D2.out _ L1.out).mono ?_
  rintro e w2 ⟨rfl, hl⟩
  have L2 := Lib.hid (L1.out.trans (hl.mono L1.out.size))
  have X2 := Lib.hid (X1.out.below hl)
  have Y2 := Lib.hid (Y1.out.below hl)
  clear hl L1 X1 Y1 x0 x1 x2 x3 x4 x5 x6 x7 x8 x9 x10 x11 y0 y1 y2 y3 y4 y5 y6 y7 y8 y9 y10 y11
  obtain ⟨x0, x1, x2, x3, x4, x5, x6, x7, x8, x9, x10, x11⟩ := X2.out
  obtain ⟨y0, y1, y2, y3, y4, y5, y6, y7, y8, y9, y10, y11⟩ := Y2.out
  go_wp2_with fail
  refine (D3.out _ L2.out).mono ?_
  rintro e w3 ⟨rfl, hl⟩
  have L3 := Lib.hid (L2.out.trans (hl.mono L2.out.size))
  have X3 := Lib.hid (X2.out.below hl)
  have Y3 := Lib.hid (Y2.out.below hl)
  clear hl L2 X2 Y2 x0 x1 x2 x3 x4 x5 x6 x7 x8 x9 x10 x11 y0 y1 y2 y3 y4 y5 y6 y7 y8 y9 y10 y11
  go_wp2
  go_ret
  exact ⟨rfl, L3.out⟩

end Go.Proofs.YtlakegeabnjegaaGreatDoor.SamJ

/- What sameMsg does, put together of its ways. -/
namespace Go.Proofs.YtlakegeabnjegaaGreatDoor.SamL
open Go.RowKit Go.Proofs.YtlakegeabnjegaaGreatDoor.Mem Go.Proofs.YtlakegeabnjegaaGreatDoor.MemR Go.Proofs.YtlakegeabnjegaaGreatDoor.BoxR Go.Proofs.YtlakegeabnjegaaGreatDoor.MemM Go.Proofs.YtlakegeabnjegaaGreatDoor.ResM Go.Proofs.YtlakegeabnjegaaGreatDoor.SameR Go.Proofs.YtlakegeabnjegaaGreatDoor.SamM Go.Proofs.YtlakegeabnjegaaGreatDoor.SamF Go.Proofs.YtlakegeabnjegaaGreatDoor.SamG Go.Proofs.YtlakegeabnjegaaGreatDoor.SamH Go.Proofs.YtlakegeabnjegaaGreatDoor.SamI Go.Proofs.YtlakegeabnjegaaGreatDoor.SamJ

theorem same (h k : Hd) (A1 A1' : Option Addr) (n1 n1' c1 c1' : Nat) (l1 m1 : List Rec) (A2 A2' : Option Addr) (n2 n2' c2 c2' : Nat) (l2 m2 : List Rec) (A3 A3' : Option Addr) (n3 n3' c3 c3' : Nat) (l3 m3 : List Rec) (w : World) (e1 : Sr w w.heap.size A1 n1 l1) (g1 : Sr w w.heap.size A1' n1' m1) (b1 : n1 ≤ 400000000) (b1' : n1' ≤ 400000000) (e2 : Sr w w.heap.size A2 n2 l2) (g2 : Sr w w.heap.size A2' n2' m2) (b2 : n2 ≤ 400000000) (b2' : n2' ≤ 400000000) (e3 : Sr w w.heap.size A3 n3 l3) (g3 : Sr w w.heap.size A3' n3' m3) (b3 : n3 ≤ 400000000) (b3' : n3' ≤ 400000000) : Calls Tryz.prog 10 #[.agg #[.int .i64 h.id, .bool h.rp, .bool h.au, .bool h.ct, .bool h.wa, .bool h.ca, .int .i64 h.code, .string h.qn, .int .i64 h.qt, .slice A1 n1 c1, .slice A2 n2 c2, .slice A3 n3 c3], .agg #[.int .i64 k.id, .bool k.rp, .bool k.au, .bool k.ct, .bool k.wa, .bool k.ca, .int .i64 k.code, .string k.qn, .int .i64 k.qt, .slice A1' n1' c1', .slice A2' n2' c2', .slice A3' n3' c3']] w fun e w' => e = .returned (.bool (smm h k l1 l2 l3 m1 m2 m3)) ∧ Below w.heap.size w w' := by
  obtain ⟨ia, pa, qa, ra, sa, ta, da, nma, tya⟩ := h
  obtain ⟨ib, pb, qb, rb, sb, tb, db, nmb, tyb⟩ := k
  dsimp only
  by_cases ce0 : ia = ib
  case neg =>
    rw [smm_h (fun e => ce0 e.1)]
    exact lw_f0 ia pa qa ra sa ta da nma tya ib pb qb rb sb tb db nmb tyb A1 A1' n1 n1' c1 c1' A2 A2' n2 n2' c2 c2' A3 A3' n3 n3' c3 c3' w ce0
  obtain rfl := ce0
  by_cases ce1 : pa = pb
  case neg =>
    rw [smm_h (fun e => ce1 e.2.1)]
    exact lw_f1 ia pa qa ra sa ta da nma tya pb qb rb sb tb db nmb tyb A1 A1' n1 n1' c1 c1' A2 A2' n2 n2' c2 c2' A3 A3' n3 n3' c3 c3' w ce1
  obtain rfl := ce1
  by_cases ce2 : qa = qb
  case neg =>
    rw [smm_h (fun e => ce2 e.2.2.1)]
    exact lw_f2 ia pa qa ra sa ta da nma tya qb rb sb tb db nmb tyb A1 A1' n1 n1' c1 c1' A2 A2' n2 n2' c2 c2' A3 A3' n3 n3' c3 c3' w ce2
  obtain rfl := ce2
  by_cases ce3 : ra = rb
  case neg =>
    rw [smm_h (fun e => ce3 e.2.2.2.1)]
    exact lw_f3 ia pa qa ra sa ta da nma tya rb sb tb db nmb tyb A1 A1' n1 n1' c1 c1' A2 A2' n2 n2' c2 c2' A3 A3' n3 n3' c3 c3' w ce3
  obtain rfl := ce3
  by_cases ce4 : sa = sb
  case neg =>
    rw [smm_h (fun e => ce4 e.2.2.2.2.1)]
    exact lw_f4 ia pa qa ra sa ta da nma tya sb tb db nmb tyb A1 A1' n1 n1' c1 c1' A2 A2' n2 n2' c2 c2' A3 A3' n3 n3' c3 c3' w ce4
  obtain rfl := ce4
  by_cases ce5 : ta = tb
  case neg =>
    rw [smm_h (fun e => ce5 e.2.2.2.2.2.1)]
    exact lw_f5 ia pa qa ra sa ta da nma tya tb db nmb tyb A1 A1' n1 n1' c1 c1' A2 A2' n2 n2' c2 c2' A3 A3' n3 n3' c3 c3' w ce5
  obtain rfl := ce5
  by_cases ce6 : da = db
  case neg =>
    rw [smm_h (fun e => ce6 e.2.2.2.2.2.2)]
    exact lw_f6 ia pa qa ra sa ta da nma tya db nmb tyb A1 A1' n1 n1' c1 c1' A2 A2' n2 n2' c2 c2' A3 A3' n3 n3' c3 c3' w ce6
  obtain rfl := ce6
  by_cases cq : nma = nmb ∧ tya = tyb
  case neg =>
    rw [smm_q cq]
    exact lw_f7 ia pa qa ra sa ta da nma tya nmb tyb A1 A1' n1 n1' c1 c1' A2 A2' n2 n2' c2 c2' A3 A3' n3 n3' c3 c3' w cq
  obtain ⟨rfl, rfl⟩ := cq
  rw [smm_r]
  have C1 : ∀ W : World, Below w.heap.size w W → Calls Tryz.prog 27 #[.slice A1 n1 c1, .slice A1' n1' c1'] W fun e w' => e = .returned (.bool (sm l1 m1)) ∧ Below W.heap.size W w' := fun W hW => SameR.recs A1 A1' n1 c1 n1' c1' l1 m1 W (e1.on hW) (g1.on hW) b1 b1'
  have C2 : ∀ W : World, Below w.heap.size w W → Calls Tryz.prog 27 #[.slice A2 n2 c2, .slice A2' n2' c2'] W fun e w' => e = .returned (.bool (sm l2 m2)) ∧ Below W.heap.size W w' := fun W hW => SameR.recs A2 A2' n2 c2 n2' c2' l2 m2 W (e2.on hW) (g2.on hW) b2 b2'
  have C3 : ∀ W : World, Below w.heap.size w W → Calls Tryz.prog 27 #[.slice A3 n3 c3, .slice A3' n3' c3'] W fun e w' => e = .returned (.bool (sm l3 m3)) ∧ Below W.heap.size W w' := fun W hW => SameR.recs A3 A3' n3 c3 n3' c3' l3 m3 W (e3.on hW) (g3.on hW) b3 b3'
  generalize sm l1 m1 = u1 at *
  generalize sm l2 m2 = u2 at *
  generalize sm l3 m3 = u3 at *
  cases u1
  · exact lw_r1 ia pa qa ra sa ta da nma tya A1 A1' n1 n1' c1 c1' A2 A2' n2 n2' c2 c2' A3 A3' n3 n3' c3 c3' w C1
  cases u2
  · exact lw_r2 ia pa qa ra sa ta da nma tya A1 A1' n1 n1' c1 c1' A2 A2' n2 n2' c2 c2' A3 A3' n3 n3' c3 c3' w C1 C2
  · exact lw_r3 ia pa qa ra sa ta da nma tya A1 A1' n1 n1' c1 c1' A2 A2' n2 n2' c2 c2' A3 A3' n3 n3' c3 c3' w u3 C1 C2 C3
end Go.Proofs.YtlakegeabnjegaaGreatDoor.SamL

/- What the law's own helpers eqByteS, markByteS and heldByteS do on slices of bytes. Condition: fewer than 400000001 bytes. -/
namespace Go.Proofs.YtlakegeabnjegaaGreatDoor.Eq
open Go.RowKit Go.Proofs.YtlakegeabnjegaaGreatDoor.Mem

theorem cast_ne {a b : UInt8} (h : a ≠ b) : ((a.toNat : Int) != (b.toNat : Int)) = true := by
  rw [bne_iff_ne]; intro e; exact h (UInt8.toNat_inj.1 (by omega))
theorem cast_eq {a b : UInt8} (h : a = b) : ((a.toNat : Int) != (b.toNat : Int)) = false := by subst h; simp

/-- Two lists that agree as far as k, and part at k. -/
theorem ne_at {l m : List UInt8} {k : Nat} (h : k < l.length) (h' : k < m.length) (hne : l[k] ≠ m[k]) : (l == m) = false := by
  rw [beq_eq_false_iff_ne]; rintro rfl; exact hne rfl
theorem eq_all {l m : List UInt8} (hl : l.length = m.length) (h : l.take l.length = m.take l.length) : (l == m) = true := by
  rw [List.take_length, hl, List.take_length] at h; simp [h]
theorem take_step {l m : List UInt8} {k : Nat} (hk : k < l.length) (hk' : k < m.length) (h : l.take k = m.take k) (he : l[k] = m[k]) : l.take (k + 1) = m.take (k + 1) := by
  rw [List.take_succ_eq_append_getElem hk, List.take_succ_eq_append_getElem hk', h, he]

/-- The numbers that markByteS lays: k, k + 1 and so on, as bytes. -/
def marks : Nat → Nat → List Value
  | _, 0 => []
  | k, n + 1 => Value.int .u8 ((k : Int) % 256) :: marks (k + 1) n
theorem marks_length (k n : Nat) : (marks k n).length = n := by
  induction n generalizing k with
  | zero => rfl
  | succ n ih => simp [marks, ih]
theorem marks_at (k n j : Nat) (h : j < n) : (marks k n)[j]? = some (Value.int .u8 (((k : Int) + (j : Int)) % 256)) := by
  induction n generalizing k j with
  | zero => omega
  | succ n ih =>
    cases j with
    | zero => simp [marks]
    | succ j => simp only [marks, List.getElem?_cons_succ]; rw [ih (k + 1) j (by omega)]; rw [show ((k + 1 : Nat) : Int) + (j : Int) = (k : Int) + ((j + 1 : Nat) : Int) by omega]
theorem marks_snoc (k n : Nat) : marks k (n + 1) = marks k n ++ [Value.int .u8 (((k : Int) + (n : Int)) % 256)] := by
  induction n generalizing k with
  | zero => simp [marks]
  | succ n ih => rw [marks, ih (k + 1), marks, List.cons_append, show ((k + 1 : Nat) : Int) + (n : Int) = (k : Int) + ((n + 1 : Nat) : Int) by omega]

theorem mark_step (cs : List Value) (k j n : Nat) (hj : j < n) (hn : n ≤ cs.length) :
    (marks k j ++ cs.drop j).set j (Value.int .u8 (((k : Int) + (j : Int)) % 256)) = marks k (j + 1) ++ cs.drop (j + 1) := by
  rw [List.set_append_right _ _ (by rw [marks_length]; omega), marks_length, Nat.sub_self, List.drop_eq_getElem_cons (by omega), List.set_cons_zero, marks_snoc, List.append_assoc]
  rfl
theorem mark_at (cs : List Value) (k j : Nat) (hj : j < cs.length) : (marks k j ++ cs.drop j)[j]? = some cs[j] := by
  rw [List.getElem?_append_right (by rw [marks_length]; omega), marks_length, Nat.sub_self, List.drop_eq_getElem_cons hj]
  rfl

theorem grown_set {w wr : World} {g : Nat} (h : w.grownBy wr (some g)) (j : Nat) (u : Value) : w.grownBy (wr.setCell ⟨g, j, none⟩ u) (some g) :=
  ⟨h.os, h.tape, h.output, by simpa [World.setCell] using h.size, fun k hk hne => by
    rw [Below.heap_setCell _ _ _ _ (fun e => hne (by simp [e]))]; exact h.block k hk hne⟩

theorem byte_ne_self (x : Int) : (x != x) = false := by simp

end Go.Proofs.YtlakegeabnjegaaGreatDoor.Eq
