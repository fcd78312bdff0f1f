/- The card of the law FnMsgs: it returns true at every slice of bytes: a reply has the number, the question and the wish of what was asked; the message functions answer as their models. -/
import Derived.Test.YtlakegeabnjegaaGreatDoorMsgsP2
import Derived.Test.YtlakegeabnjegaaGreatDoorDrawT
import Derived.Test.YtlakegeabnjegaaGreatDoorDrawU
import Derived.Test.YtlakegeabnjegaaGreatDoorRepM
import Derived.Test.YtlakegeabnjegaaGreatDoorAskM
import Derived.Test.YtlakegeabnjegaaGreatDoorCntM
import Derived.Test.YtlakegeabnjegaaGreatDoorMsgsP1
import Derived.Deep.RegionHeld3
import Derived.Deep.DeepCutAuto
import Derived.Test.YtlakegeabnjegaaGreatDoorLabels
import Derived.LaidLaws
import Derived.Test.YtlakegeabnjegaaGreatDoorCards
import Derived.Test.YtlakegeabnjegaaGreatDoorTie
import Derived.ProofKit
import Derived.OpenShut
import Derived.ShutString
import Derived.ChangeOld
import Derived.Below
import Derived.Deep.DeepHandedRow
/- What the laws' own comparison of two slices of bytes does. Condition: fewer than 400000001 bytes. -/
namespace Go.Proofs.YtlakegeabnjegaaGreatDoor.Same
open Go.RowKit Go.Proofs.YtlakegeabnjegaaGreatDoor.Mem Go.Proofs.YtlakegeabnjegaaGreatDoor.Eq

theorem big_no (A : Option Addr) (n c : Nat) (w : World) (h : n ≤ 1048576) : Calls Tryz.prog 4 #[.slice A n c] w fun e w' => e = .returned (.bool false) ∧ w = w' := by
  have hd : decide ((1048576 : Int) < (n : Int)) = false := by simp; omega
  go_enter Tryz.func4, Tryz.ntmps4
  go_wp2
  go_ret
  exact ⟨rfl, rfl⟩
theorem big_yes (A : Option Addr) (n c : Nat) (w : World) (h : ¬ n ≤ 1048576) : Calls Tryz.prog 4 #[.slice A n c] w fun e w' => e = .returned (.bool true) ∧ w = w' := by
  have hd : decide ((1048576 : Int) < (n : Int)) = true := by simp; omega
  go_enter Tryz.func4, Tryz.ntmps4
  go_wp2
  go_ret
  exact ⟨rfl, rfl⟩
end Go.Proofs.YtlakegeabnjegaaGreatDoor.Same

/- The law FnMsgs returns true at every slice of bytes, where the library's variable internal/bytealg.MaxLen holds an int and its table of powers of ten reads as its text lays it, and turns nothing that was there: a reply has the number, the question and the wish of what was asked; the message functions answer as their models. -/
namespace Go.Proofs.YtlakegeabnjegaaGreatDoor.LawMsgs
open Go.RowKit Go.Proofs.YtlakegeabnjegaaGreatDoor.Mem Go.Proofs.YtlakegeabnjegaaGreatDoor.MemR Go.Proofs.YtlakegeabnjegaaGreatDoor.BoxR Go.Proofs.YtlakegeabnjegaaGreatDoor.Labels Go.Proofs.YtlakegeabnjegaaGreatDoor.Num Go.Proofs.YtlakegeabnjegaaGreatDoor.MemM Go.Proofs.YtlakegeabnjegaaGreatDoor.ResM Go.Proofs.YtlakegeabnjegaaGreatDoor.RepM Go.Proofs.YtlakegeabnjegaaGreatDoor.AskM Go.Proofs.YtlakegeabnjegaaGreatDoor.Same Go.Proofs.YtlakegeabnjegaaGreatDoor.SamM Go.Proofs.YtlakegeabnjegaaGreatDoor.DrawR Go.Proofs.YtlakegeabnjegaaGreatDoor.DrawT Go.Proofs.YtlakegeabnjegaaGreatDoor.DrawU Go.Proofs.YtlakegeabnjegaaGreatDoor.OkM

theorem smm_self (h : Hd) (l1 l2 l3 : List Rec) : smm h h l1 l2 l3 l1 l2 l3 = true := by
  have key : ∀ l : List Rec, SameR.sm l l = true := fun l => SameR.sm_true rfl
  rw [smm_r, key, key, key]; rfl
theorem mods_of {l : List Rec} (h : ∀ r ∈ l, Sml r) : Mods l := fun r hr => by
  obtain ⟨a, b, c⟩ := h r hr
  exact ⟨by omega, by omega, by omega⟩
theorem svt {w0 w w' : World} (h : Sv w0 w) (hl : Below w.heap.size w w') : Sv w0 w' := h.trans (hl.mono h.size)
section
variable {w0 w w' : World} {g1 g2 g3 g4 g5 g6 : Nat} {h1 h2 h3 h4 h5 : Hd} {x1 y1 z1 x2 y2 z2 x3 y3 z3 x4 y4 z4 x5 y5 z5 : Value} {s : ByteArray} {n : Int}
/-- Six boxes, kept through a call that turns nothing. -/
theorem kept6 (m : (((Mx w g1 h1 x1 y1 z1 ∧ Mx w g2 h2 x2 y2 z2) ∧ (Mx w g3 h3 x3 y3 z3 ∧ Qx w g4 s n)) ∧ (Mx w g5 h4 x4 y4 z4 ∧ Mx w g6 h5 x5 y5 z5)) ∧ Sv w0 w) (hl : Below w.heap.size w w') :
    (((Mx w' g1 h1 x1 y1 z1 ∧ Mx w' g2 h2 x2 y2 z2) ∧ (Mx w' g3 h3 x3 y3 z3 ∧ Qx w' g4 s n)) ∧ (Mx w' g5 h4 x4 y4 z4 ∧ Mx w' g6 h5 x5 y5 z5)) ∧ Sv w0 w' :=
  ⟨⟨⟨⟨m.1.1.1.1.below hl, m.1.1.1.2.below hl⟩, ⟨m.1.1.2.1.below hl, m.1.1.2.2.below hl⟩⟩, ⟨m.1.2.1.below hl, m.1.2.2.below hl⟩⟩, m.2.trans (hl.mono m.2.size)⟩
theorem kept6_draw (m : (((Mx w g1 h1 x1 y1 z1 ∧ Mx w g2 h2 x2 y2 z2) ∧ (Mx w g3 h3 x3 y3 z3 ∧ Qx w g4 s n)) ∧ (Mx w g5 h4 x4 y4 z4 ∧ Mx w g6 h5 x5 y5 z5)) ∧ Sv w0 w) :
    (((Mx w.drew g1 h1 x1 y1 z1 ∧ Mx w.drew g2 h2 x2 y2 z2) ∧ (Mx w.drew g3 h3 x3 y3 z3 ∧ Qx w.drew g4 s n)) ∧ (Mx w.drew g5 h4 x4 y4 z4 ∧ Mx w.drew g6 h5 x5 y5 z5)) ∧ Sv w0 w.drew := kept6 m ((Below.refl _ _).drew)
end

set_option maxRecDepth 100000 in
set_option maxHeartbeats 32000000 in
theorem walk (A : Option Addr) (n c : Nat) (l : List UInt8) (w : World) (he : Env w) (ht : Tab w) (hs : Sl w w.heap.size A n l) (_hc : n ≤ c) (_hnil : A = none → n = 0 ∧ c = 0) :
    Calls Tryz.prog 3 #[.slice A n c] w fun e w' => e = .returned (.bool true) ∧ Below w.heap.size w w' := by
  by_cases hbig : n ≤ 1048576
  case neg =>
    go_enter Tryz.func3, Tryz.ntmps3
    go_wp2_with fail
    refine (big_yes A n c w hbig).mono ?_
    rintro e w1 ⟨rfl, rfl⟩
    go_wp2
    go_ret
    exact ⟨rfl, Below.refl _ _⟩
  have HE := Lib.hid he
  have HT := Lib.hid ht
  have HS := Lib.hid hs
  clear hs he ht
  go_enter Tryz.func3, Tryz.ntmps3
  go_wp2_with fail
  refine (big_no A n c w hbig).mono ?_
  rintro e w0 ⟨rfl, rfl⟩
  go_wp2_with fail
  refine (drawReplyTo_any A n c l w HS.out hbig).mono ?_
  rintro e w1 ⟨h, A1, n1, c1, A2, n2, c2, A3, n3, c3, co, au, u1, m1, d1, l1, u2, m2, d2, l2, u3, m3, d3, l3, rfl, t1, b1, t2, b2, t3, b3, hl⟩
  have L1 := Lib.hid hl
  have U1_1 := Lib.hid t1
  have U2_1 := Lib.hid t2
  have U3_1 := Lib.hid t3
  have E1 := Lib.hid t1.1
  have E2 := Lib.hid t2.1
  have E3 := Lib.hid t3.1
  clear t1 t2 t3 hl
  have al : Below w1.heap.size w1 (w1.alloc (.cells #[.int .i64 h.id, .bool h.rp, .bool h.au, .bool h.ct, .bool h.wa, .bool h.ca, .int .i64 h.code, .string h.qn, .int .i64 h.qt, .slice A1 n1 c1, .slice A2 n2 c2, .slice A3 n3 c3] 28)) := (Below.refl _ _).alloc (Nat.le_refl _) _
  have M2 := Lib.hid (mx_new w1 28 h (.slice A1 n1 c1) (.slice A2 n2 c2) (.slice A3 n3 c3))
  have L2 := Lib.hid (L1.out.trans (al.mono L1.out.size))
  have U1_2 := Lib.hid (U1_1.out.on al)
  have U2_2 := Lib.hid (U2_1.out.on al)
  have U3_2 := Lib.hid (U3_1.out.on al)
  clear al L1 U1_1 U2_1 U3_1
  obtain ⟨x0_0, x0_1, x0_2, x0_3, x0_4, x0_5, x0_6, x0_7, x0_8, x0_9, x0_10, x0_11⟩ := M2.out
  go_wp2_with fail
  refine (RepM.impl h A1 A2 A3 n1 c1 n2 c2 n3 c3 co au u1 0 m1 d1 l1 u2 0 m2 d2 l2 u3 0 m3 d3 l3 _ U1_2.out (by omega) U2_2.out (by omega) U3_2.out (by omega)).mono ?_
  rintro e w3 ⟨g1, e1, r1, g2, e2, r2, g3, e3, r3, rfl, hb1, hb2, hb3, -, -, -, hl⟩
  have R1_3 := Lib.hid hb1
  have R2_3 := Lib.hid hb2
  have R3_3 := Lib.hid hb3
  have L3 := Lib.hid (L2.out.trans (hl.mono L2.out.size))
  have U1_3 := Lib.hid (U1_2.out.on hl)
  have U2_3 := Lib.hid (U2_2.out.on hl)
  have U3_3 := Lib.hid (U3_2.out.on hl)
  have M3 := Lib.hid (M2.out.below hl)
  clear hl L2 U1_2 U2_2 U3_2 M2
  clear hb1 hb2 hb3 x0_0 x0_1 x0_2 x0_3 x0_4 x0_5 x0_6 x0_7 x0_8 x0_9 x0_10 x0_11
  generalize w1.heap.size = gm at *
  generalize hHH : rph h co au = H at *
  have HH := Lib.hid hHH
  clear hHH
  have al : Below w3.heap.size w3 (w3.alloc (.cells #[.int .i64 H.id, .bool H.rp, .bool H.au, .bool H.ct, .bool H.wa, .bool H.ca, .int .i64 H.code, .string H.qn, .int .i64 H.qt, .slice (some ⟨g1, 0, none⟩) m1 e1, .slice (some ⟨g2, 0, none⟩) m2 e2, .slice (some ⟨g3, 0, none⟩) m3 e3] 28)) := (Below.refl _ _).alloc (Nat.le_refl _) _
  have G4 := Lib.hid (mx_new w3 28 H (.slice (some ⟨g1, 0, none⟩) m1 e1) (.slice (some ⟨g2, 0, none⟩) m2 e2) (.slice (some ⟨g3, 0, none⟩) m3 e3))
  have L4 := Lib.hid (L3.out.trans (al.mono L3.out.size))
  have U1_4 := Lib.hid (U1_3.out.on al)
  have U2_4 := Lib.hid (U2_3.out.on al)
  have U3_4 := Lib.hid (U3_3.out.on al)
  have M4 := Lib.hid (M3.out.below al)
  have R1_4 := Lib.hid (R1_3.out.below al R1_3.out.lt)
  have R2_4 := Lib.hid (R2_3.out.below al R2_3.out.lt)
  have R3_4 := Lib.hid (R3_3.out.below al R3_3.out.lt)
  clear al L3 U1_3 U2_3 U3_3 M3 R1_3 R2_3 R3_3
  go_wp2_with fail
  refine (drawAskMsg_any A n c l _ ((HS.out.below L4.out).wider L4.out.size) hbig).mono ?_
  rintro e w5 ⟨id, s, t, rfl, -, hl⟩
  have L5 := Lib.hid (L4.out.trans (hl.mono L4.out.size))
  have U1_5 := Lib.hid (U1_4.out.on hl)
  have U2_5 := Lib.hid (U2_4.out.on hl)
  have U3_5 := Lib.hid (U3_4.out.on hl)
  have M5 := Lib.hid (M4.out.below hl)
  have R1_5 := Lib.hid (R1_4.out.below hl R1_4.out.lt)
  have R2_5 := Lib.hid (R2_4.out.below hl R2_4.out.lt)
  have R3_5 := Lib.hid (R3_4.out.below hl R3_4.out.lt)
  have G5 := Lib.hid (G4.out.below hl)
  clear hl L4 U1_4 U2_4 U3_4 M4 R1_4 R2_4 R3_4 G4
  generalize w3.heap.size = gr at *
  have al : Below w5.heap.size w5 (w5.alloc (.cells #[.string s, .int .i64 t] 25)) := (Below.refl _ _).alloc (Nat.le_refl _) _
  have Q6 := Lib.hid (qx_new w5 25 s t)
  have L6 := Lib.hid (L5.out.trans (al.mono L5.out.size))
  have U1_6 := Lib.hid (U1_5.out.on al)
  have U2_6 := Lib.hid (U2_5.out.on al)
  have U3_6 := Lib.hid (U3_5.out.on al)
  have M6 := Lib.hid (M5.out.below al)
  have R1_6 := Lib.hid (R1_5.out.below al R1_5.out.lt)
  have R2_6 := Lib.hid (R2_5.out.below al R2_5.out.lt)
  have R3_6 := Lib.hid (R3_5.out.below al R3_5.out.lt)
  have G6 := Lib.hid (G5.out.below al)
  clear al L5 U1_5 U2_5 U3_5 M5 R1_5 R2_5 R3_5 G5
  obtain ⟨q0, q1⟩ := Q6.out
  go_wp2_with fail
  refine (AskM.impl id s t _).mono ?_
  rintro e w7 ⟨rfl, hl⟩
  have L7 := Lib.hid (L6.out.trans (hl.mono L6.out.size))
  have U1_7 := Lib.hid (U1_6.out.on hl)
  have U2_7 := Lib.hid (U2_6.out.on hl)
  have U3_7 := Lib.hid (U3_6.out.on hl)
  have M7 := Lib.hid (M6.out.below hl)
  have R1_7 := Lib.hid (R1_6.out.below hl R1_6.out.lt)
  have R2_7 := Lib.hid (R2_6.out.below hl R2_6.out.lt)
  have R3_7 := Lib.hid (R3_6.out.below hl R3_6.out.lt)
  have G7 := Lib.hid (G6.out.below hl)
  have Q7 := Lib.hid (Q6.out.below hl)
  clear hl L6 U1_6 U2_6 U3_6 M6 R1_6 R2_6 R3_6 G6 Q6
  clear q0 q1 
  generalize w5.heap.size = gq at *
  generalize hKK : askh id s t = K at *
  have KK := Lib.hid hKK
  clear hKK
  have al : Below w7.heap.size w7 (w7.alloc (.cells #[.int .i64 K.id, .bool K.rp, .bool K.au, .bool K.ct, .bool K.wa, .bool K.ca, .int .i64 K.code, .string K.qn, .int .i64 K.qt, .slice none 0 0, .slice none 0 0, .slice none 0 0] 28)) := (Below.refl _ _).alloc (Nat.le_refl _) _
  have A8 := Lib.hid (mx_new w7 28 K (.slice none 0 0) (.slice none 0 0) (.slice none 0 0))
  have L8 := Lib.hid (L7.out.trans (al.mono L7.out.size))
  have U1_8 := Lib.hid (U1_7.out.on al)
  have U2_8 := Lib.hid (U2_7.out.on al)
  have U3_8 := Lib.hid (U3_7.out.on al)
  have M8 := Lib.hid (M7.out.below al)
  have R1_8 := Lib.hid (R1_7.out.below al R1_7.out.lt)
  have R2_8 := Lib.hid (R2_7.out.below al R2_7.out.lt)
  have R3_8 := Lib.hid (R3_7.out.below al R3_7.out.lt)
  have G8 := Lib.hid (G7.out.below al)
  have Q8 := Lib.hid (Q7.out.below al)
  clear al L7 U1_7 U2_7 U3_7 M7 R1_7 R2_7 R3_7 G7 Q7
  go_wp2_with fail
  refine (drawSameMsg_any A n c l _ ((HS.out.below L8.out).wider L8.out.size) hbig).mono ?_
  rintro e w9 ⟨hx, X1, nx1, cx1, lx1, X2, nx2, cx2, lx2, X3, nx3, cx3, lx3, hy, Y1, ny1, cy1, ly1, Y2, ny2, cy2, ly2, Y3, ny3, cy3, ly3, rfl, hq, ⟨⟨sx1, vx1, dx1⟩, ⟨sx2, vx2, dx2⟩, ⟨sx3, vx3, dx3⟩⟩, ⟨⟨sy1, vy1, dy1⟩, ⟨sy2, vy2, dy2⟩, ⟨sy3, vy3, dy3⟩⟩, hl⟩
  have Sx1_9 := Lib.hid sx1
  have Sx2_9 := Lib.hid sx2
  have Sx3_9 := Lib.hid sx3
  have Sy1_9 := Lib.hid sy1
  have Sy2_9 := Lib.hid sy2
  have Sy3_9 := Lib.hid sy3
  have D1 := Lib.hid (mods_of dx1)
  have D2 := Lib.hid (mods_of dx2)
  have D3 := Lib.hid (mods_of dx3)
  have L9 := Lib.hid (L8.out.trans (hl.mono L8.out.size))
  have U1_9 := Lib.hid (U1_8.out.on hl)
  have U2_9 := Lib.hid (U2_8.out.on hl)
  have U3_9 := Lib.hid (U3_8.out.on hl)
  have M9 := Lib.hid (M8.out.below hl)
  have R1_9 := Lib.hid (R1_8.out.below hl R1_8.out.lt)
  have R2_9 := Lib.hid (R2_8.out.below hl R2_8.out.lt)
  have R3_9 := Lib.hid (R3_8.out.below hl R3_8.out.lt)
  have G9 := Lib.hid (G8.out.below hl)
  have Q9 := Lib.hid (Q8.out.below hl)
  have A9 := Lib.hid (A8.out.below hl)
  clear hl L8 U1_8 U2_8 U3_8 M8 R1_8 R2_8 R3_8 G8 Q8 A8
  clear sx1 sx2 sx3 sy1 sy2 sy3 dx1 dx2 dx3 dy1 dy2 dy3 
  generalize w7.heap.size = ga at *
  have al : Below w9.heap.size w9 (w9.alloc (.cells #[.int .i64 hx.id, .bool hx.rp, .bool hx.au, .bool hx.ct, .bool hx.wa, .bool hx.ca, .int .i64 hx.code, .string hx.qn, .int .i64 hx.qt, .slice X1 nx1 cx1, .slice X2 nx2 cx2, .slice X3 nx3 cx3] 28)) := (Below.refl _ _).alloc (Nat.le_refl _) _
  have X10 := Lib.hid (mx_new w9 28 hx (.slice X1 nx1 cx1) (.slice X2 nx2 cx2) (.slice X3 nx3 cx3))
  have L10 := Lib.hid (L9.out.trans (al.mono L9.out.size))
  have U1_10 := Lib.hid (U1_9.out.on al)
  have U2_10 := Lib.hid (U2_9.out.on al)
  have U3_10 := Lib.hid (U3_9.out.on al)
  have M10 := Lib.hid (M9.out.below al)
  have R1_10 := Lib.hid (R1_9.out.below al R1_9.out.lt)
  have R2_10 := Lib.hid (R2_9.out.below al R2_9.out.lt)
  have R3_10 := Lib.hid (R3_9.out.below al R3_9.out.lt)
  have G10 := Lib.hid (G9.out.below al)
  have Q10 := Lib.hid (Q9.out.below al)
  have A10 := Lib.hid (A9.out.below al)
  have Sx1_10 := Lib.hid (Sx1_9.out.on al)
  have Sx2_10 := Lib.hid (Sx2_9.out.on al)
  have Sx3_10 := Lib.hid (Sx3_9.out.on al)
  have Sy1_10 := Lib.hid (Sy1_9.out.on al)
  have Sy2_10 := Lib.hid (Sy2_9.out.on al)
  have Sy3_10 := Lib.hid (Sy3_9.out.on al)
  clear al L9 U1_9 U2_9 U3_9 M9 R1_9 R2_9 R3_9 G9 Q9 A9 Sx1_9 Sx2_9 Sx3_9 Sy1_9 Sy2_9 Sy3_9
  have al : Below (w9.alloc (.cells #[.int .i64 hx.id, .bool hx.rp, .bool hx.au, .bool hx.ct, .bool hx.wa, .bool hx.ca, .int .i64 hx.code, .string hx.qn, .int .i64 hx.qt, .slice X1 nx1 cx1, .slice X2 nx2 cx2, .slice X3 nx3 cx3] 28)).heap.size (w9.alloc (.cells #[.int .i64 hx.id, .bool hx.rp, .bool hx.au, .bool hx.ct, .bool hx.wa, .bool hx.ca, .int .i64 hx.code, .string hx.qn, .int .i64 hx.qt, .slice X1 nx1 cx1, .slice X2 nx2 cx2, .slice X3 nx3 cx3] 28)) ((w9.alloc (.cells #[.int .i64 hx.id, .bool hx.rp, .bool hx.au, .bool hx.ct, .bool hx.wa, .bool hx.ca, .int .i64 hx.code, .string hx.qn, .int .i64 hx.qt, .slice X1 nx1 cx1, .slice X2 nx2 cx2, .slice X3 nx3 cx3] 28)).alloc (.cells #[.int .i64 hy.id, .bool hy.rp, .bool hy.au, .bool hy.ct, .bool hy.wa, .bool hy.ca, .int .i64 hy.code, .string hy.qn, .int .i64 hy.qt, .slice Y1 ny1 cy1, .slice Y2 ny2 cy2, .slice Y3 ny3 cy3] 28)) := (Below.refl _ _).alloc (Nat.le_refl _) _
  have Y11 := Lib.hid (mx_new (w9.alloc (.cells #[.int .i64 hx.id, .bool hx.rp, .bool hx.au, .bool hx.ct, .bool hx.wa, .bool hx.ca, .int .i64 hx.code, .string hx.qn, .int .i64 hx.qt, .slice X1 nx1 cx1, .slice X2 nx2 cx2, .slice X3 nx3 cx3] 28)) 28 hy (.slice Y1 ny1 cy1) (.slice Y2 ny2 cy2) (.slice Y3 ny3 cy3))
  have L11 := Lib.hid (L10.out.trans (al.mono L10.out.size))
  have U1_11 := Lib.hid (U1_10.out.on al)
  have U2_11 := Lib.hid (U2_10.out.on al)
  have U3_11 := Lib.hid (U3_10.out.on al)
  have M11 := Lib.hid (M10.out.below al)
  have R1_11 := Lib.hid (R1_10.out.below al R1_10.out.lt)
  have R2_11 := Lib.hid (R2_10.out.below al R2_10.out.lt)
  have R3_11 := Lib.hid (R3_10.out.below al R3_10.out.lt)
  have G11 := Lib.hid (G10.out.below al)
  have Q11 := Lib.hid (Q10.out.below al)
  have A11 := Lib.hid (A10.out.below al)
  have Sx1_11 := Lib.hid (Sx1_10.out.on al)
  have Sx2_11 := Lib.hid (Sx2_10.out.on al)
  have Sx3_11 := Lib.hid (Sx3_10.out.on al)
  have Sy1_11 := Lib.hid (Sy1_10.out.on al)
  have Sy2_11 := Lib.hid (Sy2_10.out.on al)
  have Sy3_11 := Lib.hid (Sy3_10.out.on al)
  have X11 := Lib.hid (X10.out.below al)
  clear al L10 U1_10 U2_10 U3_10 M10 R1_10 R2_10 R3_10 G10 Q10 A10 Sx1_10 Sx2_10 Sx3_10 Sy1_10 Sy2_10 Sy3_10 X10
  have gsz : ((w9.alloc (.cells #[.int .i64 hx.id, .bool hx.rp, .bool hx.au, .bool hx.ct, .bool hx.wa, .bool hx.ca, .int .i64 hx.code, .string hx.qn, .int .i64 hx.qt, .slice X1 nx1 cx1, .slice X2 nx2 cx2, .slice X3 nx3 cx3] 28))).heap.size = w9.heap.size + 1 := by simp
  rw [gsz] at Y11
  clear gsz
  go_upto_region 8 with (fail)
  generalize ((w9.alloc (.cells #[.int .i64 hx.id, .bool hx.rp, .bool hx.au, .bool hx.ct, .bool hx.wa, .bool hx.ca, .int .i64 hx.code, .string hx.qn, .int .i64 hx.qt, .slice X1 nx1 cx1, .slice X2 nx2 cx2, .slice X3 nx3 cx3] 28)).alloc (.cells #[.int .i64 hy.id, .bool hy.rp, .bool hy.au, .bool hy.ct, .bool hy.wa, .bool hy.ca, .int .i64 hy.code, .string hy.qn, .int .i64 hy.qt, .slice Y1 ny1 cy1, .slice Y2 ny2 cy2, .slice Y3 ny3 cy3] 28)) = WW at *
  generalize w9.heap.size + 1 = gy at *
  generalize w9.heap.size = gx at *
  obtain ⟨qb, hqb⟩ : ∃ b, smm hx hy lx1 lx2 lx3 ly1 ly2 ly3 = b := ⟨_, rfl⟩
  obtain ⟨ob, hob⟩ : ∃ b, mok hx lx1 lx2 lx3 = b := ⟨_, rfl⟩
  obtain ⟨tx, htx⟩ : ∃ b, TxtM.mtx hx lx1 lx2 lx3 = b := ⟨_, rfl⟩
  have HQB := Lib.hid hqb
  have HOB := Lib.hid hob
  have HTX := Lib.hid htx
  clear hqb hob htx
  have CS : Hid (∀ W : World, Sv WW W → Calls Tryz.prog 13 #[.agg #[.int .i64 hx.id, .bool hx.rp, .bool hx.au, .bool hx.ct, .bool hx.wa, .bool hx.ca, .int .i64 hx.code, .string hx.qn, .int .i64 hx.qt, .slice X1 nx1 cx1, .slice X2 nx2 cx2, .slice X3 nx3 cx3], .agg #[.int .i64 hy.id, .bool hy.rp, .bool hy.au, .bool hy.ct, .bool hy.wa, .bool hy.ca, .int .i64 hy.code, .string hy.qn, .int .i64 hy.qt, .slice Y1 ny1 cy1, .slice Y2 ny2 cy2, .slice Y3 ny3 cy3]] W fun e w' => e = .returned (.bool qb) ∧ Below W.heap.size W w') := fun W hW => HQB.out ▸ SamN.same hx hy X1 Y1 nx1 ny1 cx1 cy1 lx1 ly1 X2 Y2 nx2 ny2 cx2 cy2 lx2 ly2 X3 Y3 nx3 ny3 cx3 cy3 lx3 ly3 W (Sx1_11.out.on hW) (Sy1_11.out.on hW) (by omega) (by omega) (Sx2_11.out.on hW) (Sy2_11.out.on hW) (by omega) (by omega) (Sx3_11.out.on hW) (Sy3_11.out.on hW) (by omega) (by omega)
  have CL : Hid (∀ W : World, Sv WW W → Calls Tryz.prog 10 #[.agg #[.int .i64 hx.id, .bool hx.rp, .bool hx.au, .bool hx.ct, .bool hx.wa, .bool hx.ca, .int .i64 hx.code, .string hx.qn, .int .i64 hx.qt, .slice X1 nx1 cx1, .slice X2 nx2 cx2, .slice X3 nx3 cx3], .agg #[.int .i64 hy.id, .bool hy.rp, .bool hy.au, .bool hy.ct, .bool hy.wa, .bool hy.ca, .int .i64 hy.code, .string hy.qn, .int .i64 hy.qt, .slice Y1 ny1 cy1, .slice Y2 ny2 cy2, .slice Y3 ny3 cy3]] W fun e w' => e = .returned (.bool qb) ∧ Below W.heap.size W w') := fun W hW => HQB.out ▸ SamL.same hx hy X1 Y1 nx1 ny1 cx1 cy1 lx1 ly1 X2 Y2 nx2 ny2 cx2 cy2 lx2 ly2 X3 Y3 nx3 ny3 cx3 cy3 lx3 ly3 W (Sx1_11.out.on hW) (Sy1_11.out.on hW) (by omega) (by omega) (Sx2_11.out.on hW) (Sy2_11.out.on hW) (by omega) (by omega) (Sx3_11.out.on hW) (Sy3_11.out.on hW) (by omega) (by omega)
  have CO : Hid (∀ W : World, Sv WW W → Calls Tryz.prog 14 #[.agg #[.int .i64 hx.id, .bool hx.rp, .bool hx.au, .bool hx.ct, .bool hx.wa, .bool hx.ca, .int .i64 hx.code, .string hx.qn, .int .i64 hx.qt, .slice X1 nx1 cx1, .slice X2 nx2 cx2, .slice X3 nx3 cx3]] W fun e w' => e = .returned (.bool ob) ∧ Below W.heap.size W w') := fun W hW => HOB.out ▸ OkM.impl hx X1 nx1 cx1 lx1 X2 nx2 cx2 lx2 X3 nx3 cx3 lx3 W (HE.out.below (L11.out.trans (hW.mono L11.out.size))) (by omega) (Sx1_11.out.on hW) (by omega) D1.out (Sx2_11.out.on hW) (by omega) D2.out (Sx3_11.out.on hW) (by omega) D3.out
  have CP : Hid (∀ W : World, Sv WW W → Calls Tryz.prog 15 #[.agg #[.int .i64 hx.id, .bool hx.rp, .bool hx.au, .bool hx.ct, .bool hx.wa, .bool hx.ca, .int .i64 hx.code, .string hx.qn, .int .i64 hx.qt, .slice X1 nx1 cx1, .slice X2 nx2 cx2, .slice X3 nx3 cx3]] W fun e w' => e = .returned (.bool ob) ∧ Below W.heap.size W w') := fun W hW => HOB.out ▸ OkM.spec hx X1 nx1 cx1 lx1 X2 nx2 cx2 lx2 X3 nx3 cx3 lx3 W (by omega) (Sx1_11.out.on hW) (by omega) D1.out (Sx2_11.out.on hW) (by omega) D2.out (Sx3_11.out.on hW) (by omega) D3.out
  have CX : Hid (∀ W : World, Sv WW W → Calls Tryz.prog 16 #[.agg #[.int .i64 hx.id, .bool hx.rp, .bool hx.au, .bool hx.ct, .bool hx.wa, .bool hx.ca, .int .i64 hx.code, .string hx.qn, .int .i64 hx.qt, .slice X1 nx1 cx1, .slice X2 nx2 cx2, .slice X3 nx3 cx3]] W fun e w' => e = .returned (.string tx) ∧ Below W.heap.size W w') := fun W hW => HTX.out ▸ TxtM.impl hx X1 nx1 cx1 lx1 X2 nx2 cx2 lx2 X3 nx3 cx3 lx3 W (HE.out.below (L11.out.trans (hW.mono L11.out.size))) (HT.out.below (L11.out.trans (hW.mono L11.out.size))) (by omega) (Sx1_11.out.on hW) (by omega) D1.out (Sx2_11.out.on hW) (by omega) D2.out (Sx3_11.out.on hW) (by omega) D3.out
  have CY : Hid (∀ W : World, Sv WW W → Calls Tryz.prog 17 #[.agg #[.int .i64 hx.id, .bool hx.rp, .bool hx.au, .bool hx.ct, .bool hx.wa, .bool hx.ca, .int .i64 hx.code, .string hx.qn, .int .i64 hx.qt, .slice X1 nx1 cx1, .slice X2 nx2 cx2, .slice X3 nx3 cx3]] W fun e w' => e = .returned (.string tx) ∧ Below W.heap.size W w') := fun W hW => HTX.out ▸ TxtM.spec hx X1 nx1 cx1 lx1 X2 nx2 cx2 lx2 X3 nx3 cx3 lx3 W (by omega) (Sx1_11.out.on hW) (by omega) D1.out (Sx2_11.out.on hW) (by omega) D2.out (Sx3_11.out.on hW) (by omega) D3.out
  have CC : Hid (∀ W : World, Sv WW W → Calls Tryz.prog 18 #[.agg #[.int .i64 hx.id, .bool hx.rp, .bool hx.au, .bool hx.ct, .bool hx.wa, .bool hx.ca, .int .i64 hx.code, .string hx.qn, .int .i64 hx.qt, .slice X1 nx1 cx1, .slice X2 nx2 cx2, .slice X3 nx3 cx3]] W fun e w' => e = .returned (.int .i64 ((nx1 : Int) + (nx2 : Int) + (nx3 : Int))) ∧ Below W.heap.size W w') := fun W hW => CntM.impl hx X1 X2 X3 nx1 cx1 nx2 cx2 nx3 cx3 W (by omega) (by omega) (by omega)
  have CD : Hid (∀ W : World, Sv WW W → Calls Tryz.prog 19 #[.agg #[.int .i64 hx.id, .bool hx.rp, .bool hx.au, .bool hx.ct, .bool hx.wa, .bool hx.ca, .int .i64 hx.code, .string hx.qn, .int .i64 hx.qt, .slice X1 nx1 cx1, .slice X2 nx2 cx2, .slice X3 nx3 cx3]] W fun e w' => e = .returned (.int .i64 ((nx1 : Int) + (nx2 : Int) + (nx3 : Int))) ∧ Below W.heap.size W w') := fun W hW => CntM.spec hx X1 X2 X3 nx1 cx1 nx2 cx2 nx3 cx3 W (by omega) (by omega) (by omega)
  have CA : Hid (∀ W : World, Sv WW W → Calls Tryz.prog 12 #[.int .i64 id, .agg #[.string s, .int .i64 t]] W fun e w' => e = .returned (.agg #[.int .i64 K.id, .bool K.rp, .bool K.au, .bool K.ct, .bool K.wa, .bool K.ca, .int .i64 K.code, .string K.qn, .int .i64 K.qt, .slice none 0 0, .slice none 0 0, .slice none 0 0]) ∧ Below W.heap.size W w') := fun W hW => KK.out ▸ AskM.spec id s t W
  have CB : Hid (∀ W : World, Sv WW W → Calls Tryz.prog 10 #[.agg #[.int .i64 K.id, .bool K.rp, .bool K.au, .bool K.ct, .bool K.wa, .bool K.ca, .int .i64 K.code, .string K.qn, .int .i64 K.qt, .slice none 0 0, .slice none 0 0, .slice none 0 0], .agg #[.int .i64 K.id, .bool K.rp, .bool K.au, .bool K.ct, .bool K.wa, .bool K.ca, .int .i64 K.code, .string K.qn, .int .i64 K.qt, .slice none 0 0, .slice none 0 0, .slice none 0 0]] W fun e w' => e = .returned (.bool true) ∧ Below W.heap.size W w') := fun W hW => (smm_self K [] [] []) ▸ SamL.same K K none none 0 0 0 0 [] [] none none 0 0 0 0 [] [] none none 0 0 0 0 [] [] W Sr.nil Sr.nil (by omega) (by omega) Sr.nil Sr.nil (by omega) (by omega) Sr.nil Sr.nil (by omega) (by omega)
  have CR : Hid (∀ W : World, Sv WW W → Calls Tryz.prog 11 #[.agg #[.int .i64 h.id, .bool h.rp, .bool h.au, .bool h.ct, .bool h.wa, .bool h.ca, .int .i64 h.code, .string h.qn, .int .i64 h.qt, .slice A1 n1 c1, .slice A2 n2 c2, .slice A3 n3 c3], .int .i64 co, .bool au, .slice (some ⟨u1, 0, none⟩) m1 d1, .slice (some ⟨u2, 0, none⟩) m2 d2, .slice (some ⟨u3, 0, none⟩) m3 d3] W (GivesM W H m1 m2 m3 l1 l2 l3)) := fun W hW => HH.out ▸ RepM.spec h A1 A2 A3 n1 c1 n2 c2 n3 c3 co au u1 0 m1 d1 l1 u2 0 m2 d2 l2 u3 0 m3 d3 l3 W (U1_11.out.on hW) (by omega) (U2_11.out.on hW) (by omega) (U3_11.out.on hW) (by omega)
  have CE : Hid (∀ (W : World) (t1 f1 : Nat) (q1 : List Value) (t2 f2 : Nat) (q2 : List Value) (t3 f3 : Nat) (q3 : List Value), Sv WW W → Bk W t1 73 (fl l1 ++ q1) → Bk W t2 73 (fl l2 ++ q2) → Bk W t3 73 (fl l3 ++ q3) → Calls Tryz.prog 10 #[.agg #[.int .i64 H.id, .bool H.rp, .bool H.au, .bool H.ct, .bool H.wa, .bool H.ca, .int .i64 H.code, .string H.qn, .int .i64 H.qt, .slice (some ⟨g1, 0, none⟩) m1 e1, .slice (some ⟨g2, 0, none⟩) m2 e2, .slice (some ⟨g3, 0, none⟩) m3 e3], .agg #[.int .i64 H.id, .bool H.rp, .bool H.au, .bool H.ct, .bool H.wa, .bool H.ca, .int .i64 H.code, .string H.qn, .int .i64 H.qt, .slice (some ⟨t1, 0, none⟩) m1 f1, .slice (some ⟨t2, 0, none⟩) m2 f2, .slice (some ⟨t3, 0, none⟩) m3 f3]] W fun e w' => e = .returned (.bool true) ∧ Below W.heap.size W w') := fun W t1 f1 q1 t2 f2 q2 t3 f3 q3 hW k1 k2 k3 => (smm_self H l1 l2 l3) ▸ SamL.same H H _ _ m1 m1 e1 f1 l1 l1 _ _ m2 m2 e2 f2 l2 l2 _ _ m3 m3 e3 f3 l3 l3 W (bk_sr (R1_11.out.below hW R1_11.out.lt) E1.out) (bk_sr k1 E1.out) (by omega) (by omega) (bk_sr (R2_11.out.below hW R2_11.out.lt) E2.out) (bk_sr k2 E2.out) (by omega) (by omega) (bk_sr (R3_11.out.below hW R3_11.out.lt) E3.out) (bk_sr k3 E3.out) (by omega) (by omega)
  have S0 : (((((WW.cell? ⟨gr, 0, none⟩ = some (.int .i64 H.id) ∧ WW.cell? ⟨gr, 1, none⟩ = some (.bool H.rp) ∧ WW.cell? ⟨gr, 2, none⟩ = some (.bool H.au) ∧ WW.cell? ⟨gr, 3, none⟩ = some (.bool H.ct) ∧ WW.cell? ⟨gr, 4, none⟩ = some (.bool H.wa) ∧ WW.cell? ⟨gr, 5, none⟩ = some (.bool H.ca) ∧ WW.cell? ⟨gr, 6, none⟩ = some (.int .i64 H.code) ∧ WW.cell? ⟨gr, 7, none⟩ = some (.string H.qn) ∧ WW.cell? ⟨gr, 8, none⟩ = some (.int .i64 H.qt) ∧ WW.cell? ⟨gr, 9, none⟩ = some (.slice (some ⟨g1, 0, none⟩) m1 e1) ∧ WW.cell? ⟨gr, 10, none⟩ = some (.slice (some ⟨g2, 0, none⟩) m2 e2) ∧ WW.cell? ⟨gr, 11, none⟩ = some (.slice (some ⟨g3, 0, none⟩) m3 e3)) ∧ (WW.cell? ⟨gm, 0, none⟩ = some (.int .i64 h.id) ∧ WW.cell? ⟨gm, 1, none⟩ = some (.bool h.rp) ∧ WW.cell? ⟨gm, 2, none⟩ = some (.bool h.au) ∧ WW.cell? ⟨gm, 3, none⟩ = some (.bool h.ct) ∧ WW.cell? ⟨gm, 4, none⟩ = some (.bool h.wa) ∧ WW.cell? ⟨gm, 5, none⟩ = some (.bool h.ca) ∧ WW.cell? ⟨gm, 6, none⟩ = some (.int .i64 h.code) ∧ WW.cell? ⟨gm, 7, none⟩ = some (.string h.qn) ∧ WW.cell? ⟨gm, 8, none⟩ = some (.int .i64 h.qt) ∧ WW.cell? ⟨gm, 9, none⟩ = some (.slice A1 n1 c1) ∧ WW.cell? ⟨gm, 10, none⟩ = some (.slice A2 n2 c2) ∧ WW.cell? ⟨gm, 11, none⟩ = some (.slice A3 n3 c3))) ∧ ((WW.cell? ⟨ga, 0, none⟩ = some (.int .i64 K.id) ∧ WW.cell? ⟨ga, 1, none⟩ = some (.bool K.rp) ∧ WW.cell? ⟨ga, 2, none⟩ = some (.bool K.au) ∧ WW.cell? ⟨ga, 3, none⟩ = some (.bool K.ct) ∧ WW.cell? ⟨ga, 4, none⟩ = some (.bool K.wa) ∧ WW.cell? ⟨ga, 5, none⟩ = some (.bool K.ca) ∧ WW.cell? ⟨ga, 6, none⟩ = some (.int .i64 K.code) ∧ WW.cell? ⟨ga, 7, none⟩ = some (.string K.qn) ∧ WW.cell? ⟨ga, 8, none⟩ = some (.int .i64 K.qt) ∧ WW.cell? ⟨ga, 9, none⟩ = some (.slice none 0 0) ∧ WW.cell? ⟨ga, 10, none⟩ = some (.slice none 0 0) ∧ WW.cell? ⟨ga, 11, none⟩ = some (.slice none 0 0)) ∧ (WW.cell? ⟨gq, 0, none⟩ = some (.string s) ∧ WW.cell? ⟨gq, 1, none⟩ = some (.int .i64 t)))) ∧ ((WW.cell? ⟨gx, 0, none⟩ = some (.int .i64 hx.id) ∧ WW.cell? ⟨gx, 1, none⟩ = some (.bool hx.rp) ∧ WW.cell? ⟨gx, 2, none⟩ = some (.bool hx.au) ∧ WW.cell? ⟨gx, 3, none⟩ = some (.bool hx.ct) ∧ WW.cell? ⟨gx, 4, none⟩ = some (.bool hx.wa) ∧ WW.cell? ⟨gx, 5, none⟩ = some (.bool hx.ca) ∧ WW.cell? ⟨gx, 6, none⟩ = some (.int .i64 hx.code) ∧ WW.cell? ⟨gx, 7, none⟩ = some (.string hx.qn) ∧ WW.cell? ⟨gx, 8, none⟩ = some (.int .i64 hx.qt) ∧ WW.cell? ⟨gx, 9, none⟩ = some (.slice X1 nx1 cx1) ∧ WW.cell? ⟨gx, 10, none⟩ = some (.slice X2 nx2 cx2) ∧ WW.cell? ⟨gx, 11, none⟩ = some (.slice X3 nx3 cx3)) ∧ (WW.cell? ⟨gy, 0, none⟩ = some (.int .i64 hy.id) ∧ WW.cell? ⟨gy, 1, none⟩ = some (.bool hy.rp) ∧ WW.cell? ⟨gy, 2, none⟩ = some (.bool hy.au) ∧ WW.cell? ⟨gy, 3, none⟩ = some (.bool hy.ct) ∧ WW.cell? ⟨gy, 4, none⟩ = some (.bool hy.wa) ∧ WW.cell? ⟨gy, 5, none⟩ = some (.bool hy.ca) ∧ WW.cell? ⟨gy, 6, none⟩ = some (.int .i64 hy.code) ∧ WW.cell? ⟨gy, 7, none⟩ = some (.string hy.qn) ∧ WW.cell? ⟨gy, 8, none⟩ = some (.int .i64 hy.qt) ∧ WW.cell? ⟨gy, 9, none⟩ = some (.slice Y1 ny1 cy1) ∧ WW.cell? ⟨gy, 10, none⟩ = some (.slice Y2 ny2 cy2) ∧ WW.cell? ⟨gy, 11, none⟩ = some (.slice Y3 ny3 cy3)))) ∧ Sv WW WW) := ⟨⟨⟨⟨G11.out, M11.out⟩, ⟨A11.out, Q11.out⟩⟩, ⟨X11.out, Y11.out⟩⟩, Below.refl _ _⟩
  have v0 : Sv WW WW.drew := (Below.refl _ _).drew
  have j1 : (qb != qb) = false := by cases qb <;> rfl
  have j2 : (ob != ob) = false := by cases ob <;> rfl
  have j3 : ((nx1 : Int) + (nx2 : Int) + (nx3 : Int) != (nx1 : Int) + (nx2 : Int) + (nx3 : Int)) = false := by simp
  have j4 : (tx.toList == tx.toList) = true := by simp
  have j5 : (tx.toList != tx.toList) = false := by simp
  go_wp2_with fail
  go_region_held3 (fun w' => (((((w'.cell? ⟨gr, 0, none⟩ = some (.int .i64 H.id) ∧ w'.cell? ⟨gr, 1, none⟩ = some (.bool H.rp) ∧ w'.cell? ⟨gr, 2, none⟩ = some (.bool H.au) ∧ w'.cell? ⟨gr, 3, none⟩ = some (.bool H.ct) ∧ w'.cell? ⟨gr, 4, none⟩ = some (.bool H.wa) ∧ w'.cell? ⟨gr, 5, none⟩ = some (.bool H.ca) ∧ w'.cell? ⟨gr, 6, none⟩ = some (.int .i64 H.code) ∧ w'.cell? ⟨gr, 7, none⟩ = some (.string H.qn) ∧ w'.cell? ⟨gr, 8, none⟩ = some (.int .i64 H.qt) ∧ w'.cell? ⟨gr, 9, none⟩ = some (.slice (some ⟨g1, 0, none⟩) m1 e1) ∧ w'.cell? ⟨gr, 10, none⟩ = some (.slice (some ⟨g2, 0, none⟩) m2 e2) ∧ w'.cell? ⟨gr, 11, none⟩ = some (.slice (some ⟨g3, 0, none⟩) m3 e3)) ∧ (w'.cell? ⟨gm, 0, none⟩ = some (.int .i64 h.id) ∧ w'.cell? ⟨gm, 1, none⟩ = some (.bool h.rp) ∧ w'.cell? ⟨gm, 2, none⟩ = some (.bool h.au) ∧ w'.cell? ⟨gm, 3, none⟩ = some (.bool h.ct) ∧ w'.cell? ⟨gm, 4, none⟩ = some (.bool h.wa) ∧ w'.cell? ⟨gm, 5, none⟩ = some (.bool h.ca) ∧ w'.cell? ⟨gm, 6, none⟩ = some (.int .i64 h.code) ∧ w'.cell? ⟨gm, 7, none⟩ = some (.string h.qn) ∧ w'.cell? ⟨gm, 8, none⟩ = some (.int .i64 h.qt) ∧ w'.cell? ⟨gm, 9, none⟩ = some (.slice A1 n1 c1) ∧ w'.cell? ⟨gm, 10, none⟩ = some (.slice A2 n2 c2) ∧ w'.cell? ⟨gm, 11, none⟩ = some (.slice A3 n3 c3))) ∧ ((w'.cell? ⟨ga, 0, none⟩ = some (.int .i64 K.id) ∧ w'.cell? ⟨ga, 1, none⟩ = some (.bool K.rp) ∧ w'.cell? ⟨ga, 2, none⟩ = some (.bool K.au) ∧ w'.cell? ⟨ga, 3, none⟩ = some (.bool K.ct) ∧ w'.cell? ⟨ga, 4, none⟩ = some (.bool K.wa) ∧ w'.cell? ⟨ga, 5, none⟩ = some (.bool K.ca) ∧ w'.cell? ⟨ga, 6, none⟩ = some (.int .i64 K.code) ∧ w'.cell? ⟨ga, 7, none⟩ = some (.string K.qn) ∧ w'.cell? ⟨ga, 8, none⟩ = some (.int .i64 K.qt) ∧ w'.cell? ⟨ga, 9, none⟩ = some (.slice none 0 0) ∧ w'.cell? ⟨ga, 10, none⟩ = some (.slice none 0 0) ∧ w'.cell? ⟨ga, 11, none⟩ = some (.slice none 0 0)) ∧ (w'.cell? ⟨gq, 0, none⟩ = some (.string s) ∧ w'.cell? ⟨gq, 1, none⟩ = some (.int .i64 t)))) ∧ ((w'.cell? ⟨gx, 0, none⟩ = some (.int .i64 hx.id) ∧ w'.cell? ⟨gx, 1, none⟩ = some (.bool hx.rp) ∧ w'.cell? ⟨gx, 2, none⟩ = some (.bool hx.au) ∧ w'.cell? ⟨gx, 3, none⟩ = some (.bool hx.ct) ∧ w'.cell? ⟨gx, 4, none⟩ = some (.bool hx.wa) ∧ w'.cell? ⟨gx, 5, none⟩ = some (.bool hx.ca) ∧ w'.cell? ⟨gx, 6, none⟩ = some (.int .i64 hx.code) ∧ w'.cell? ⟨gx, 7, none⟩ = some (.string hx.qn) ∧ w'.cell? ⟨gx, 8, none⟩ = some (.int .i64 hx.qt) ∧ w'.cell? ⟨gx, 9, none⟩ = some (.slice X1 nx1 cx1) ∧ w'.cell? ⟨gx, 10, none⟩ = some (.slice X2 nx2 cx2) ∧ w'.cell? ⟨gx, 11, none⟩ = some (.slice X3 nx3 cx3)) ∧ (w'.cell? ⟨gy, 0, none⟩ = some (.int .i64 hy.id) ∧ w'.cell? ⟨gy, 1, none⟩ = some (.bool hy.rp) ∧ w'.cell? ⟨gy, 2, none⟩ = some (.bool hy.au) ∧ w'.cell? ⟨gy, 3, none⟩ = some (.bool hy.ct) ∧ w'.cell? ⟨gy, 4, none⟩ = some (.bool hy.wa) ∧ w'.cell? ⟨gy, 5, none⟩ = some (.bool hy.ca) ∧ w'.cell? ⟨gy, 6, none⟩ = some (.int .i64 hy.code) ∧ w'.cell? ⟨gy, 7, none⟩ = some (.string hy.qn) ∧ w'.cell? ⟨gy, 8, none⟩ = some (.int .i64 hy.qt) ∧ w'.cell? ⟨gy, 9, none⟩ = some (.slice Y1 ny1 cy1) ∧ w'.cell? ⟨gy, 10, none⟩ = some (.slice Y2 ny2 cy2) ∧ w'.cell? ⟨gy, 11, none⟩ = some (.slice Y3 ny3 cy3)))) ∧ Sv WW w'))
    (first | with_reducible exact S0 | with_reducible assumption | exact kept6 (by assumption) hl | exact kept6_draw S0 | fail)
    (first
      | (go_at_call 11; (with_reducible refine (CR.out _ v0).mono ?_); rintro e u1 ⟨t1, f1, q1, t2, f2, q2, t3, f3, q3, rfl, z1, z2, z3, -, -, -, hl⟩; have v1 := svt v0 hl)
      | (go_at_call 10; (with_reducible refine (CE.out u1 t1 f1 q1 t2 f2 q2 t3 f3 q3 v1 z1 z2 z3).mono ?_); rintro e u2 ⟨rfl, hl⟩; have v2 := svt v1 hl)
      | (go_at_call 12; (with_reducible refine (CA.out u2 v2).mono ?_); rintro e u3 ⟨rfl, hl⟩; have v3 := svt v2 hl)
      | (go_at_call 10; (with_reducible refine (CB.out u3 v3).mono ?_); rintro e u4 ⟨rfl, hl⟩; have v4 := svt v3 hl)
      | (go_at_call 13; (with_reducible refine (CS.out u4 v4).mono ?_); rintro e u5 ⟨rfl, hl⟩; have v5 := svt v4 hl)
      | (go_at_call 10; (with_reducible refine (CL.out u5 v5).mono ?_); rintro e u6 ⟨rfl, hl⟩; have v6 := svt v5 hl)
      | (go_at_call 14; (with_reducible refine (CO.out u6 v6).mono ?_); rintro e u7 ⟨rfl, hl⟩; have v7 := svt v6 hl)
      | (go_at_call 15; (with_reducible refine (CP.out u7 v7).mono ?_); rintro e u8 ⟨rfl, hl⟩; have v8 := svt v7 hl)
      | (go_at_call 16; (with_reducible refine (CX.out u8 v8).mono ?_); rintro e u9 ⟨rfl, hl⟩; have v9 := svt v8 hl)
      | (go_at_call 17; (with_reducible refine (CY.out u9 v9).mono ?_); rintro e u10 ⟨rfl, hl⟩; have v10 := svt v9 hl)
      | (go_at_call 18; (with_reducible refine (CC.out u10 v10).mono ?_); rintro e u11 ⟨rfl, hl⟩; have v11 := svt v10 hl)
      | (go_at_call 19; (with_reducible refine (CD.out u11 v11).mono ?_); rintro e u12 ⟨rfl, hl⟩; have v12 := svt v11 hl)
      | fail)
  rename_i hH
  have LZ := Lib.hid (L11.out.trans (hH.2.mono L11.out.size))
  have MG : Hid (Mx u12 gr H (.slice (some ⟨g1, 0, none⟩) m1 e1) (.slice (some ⟨g2, 0, none⟩) m2 e2) (.slice (some ⟨g3, 0, none⟩) m3 e3)) := hH.1.1.1.1
  have MM : Hid (Mx u12 gm h (.slice A1 n1 c1) (.slice A2 n2 c2) (.slice A3 n3 c3)) := hH.1.1.1.2
  have MA : Hid (Mx u12 ga K (.slice none 0 0) (.slice none 0 0) (.slice none 0 0)) := hH.1.1.2.1
  have MQ : Hid (Qx u12 gq s t) := hH.1.1.2.2
  clear hH hl z1 z2 z3 v0 v1 v2 v3 v4 v5 v6 v7 v8 v9 v10 v11 v12 S0 CS CL CO CP CX CY CC CD CA CB CR CE j1 j2 j3 j4 j5
  have hgt : Tryz.prog.eqGuardType Tryz.prog.depth 25 = false := by kernel_rfl
  have p1 : H.rp = true := by rw [← HH.out]; rfl
  have p2 : (H.id == h.id) = true := by rw [← HH.out]; simp [rph]
  have p3 := fun W => (show Sem.run Tryz.prog (binOp .eql 25 (.agg #[.string H.qn, .int .i64 H.qt]) (.agg #[.string h.qn, .int .i64 h.qt])) W = .ok (.bool true) W from by rw [← HH.out]; exact eqlQ_same h.qn h.qt W)
  have p4 : (H.wa == h.wa) = true := by rw [← HH.out]; simp [rph]
  have p6 : K.rp = false := by rw [← KK.out]; rfl
  have p7 := fun W => (show Sem.run Tryz.prog (binOp .eql 25 (.agg #[.string K.qn, .int .i64 K.qt]) (.agg #[.string s, .int .i64 t])) W = .ok (.bool true) W from by rw [← KK.out]; exact eqlQ_same s t W)
  obtain ⟨a0, a1, a2, a3, a4, a5, a6, a7, a8, a9, a10, a11⟩ := MG.out
  obtain ⟨b0, b1', b2', b3', b4, b5, b6, b7, b8, b9, b10, b11⟩ := MM.out
  go_wp2_with fail
  refine (CntM.impl ⟨H.id, true, H.au, H.ct, H.wa, H.ca, H.code, H.qn, H.qt⟩ (some ⟨g1, 0, none⟩) (some ⟨g2, 0, none⟩) (some ⟨g3, 0, none⟩) m1 e1 m2 e2 m3 e3 u12 (by omega) (by omega) (by omega)).mono ?_
  rintro e y1 ⟨rfl, hl⟩
  have LY := Lib.hid (LZ.out.trans (hl.mono LZ.out.size))
  have NA := Lib.hid (MA.out.below hl)
  have NQ := Lib.hid (MQ.out.below hl)
  clear hl a0 a1 a2 a3 a4 a5 a6 a7 a8 a9 a10 a11 b0 b1' b2' b3' b4 b5 b6 b7 b8 b9 b10 b11 LZ MG MM MA MQ
  obtain ⟨a0, a1, a2, a3, a4, a5, a6, a7, a8, a9, a10, a11⟩ := NA.out
  obtain ⟨q0, q1⟩ := NQ.out
  have j6 : ((m1 : Int) + (m2 : Int) + (m3 : Int) == (m1 : Int) + (m2 : Int) + (m3 : Int)) = true := by simp
  go_wp2_with fail
  refine (CntM.impl ⟨K.id, false, K.au, K.ct, K.wa, K.ca, K.code, K.qn, K.qt⟩ none none none 0 0 0 0 0 0 y1 (by omega) (by omega) (by omega)).mono ?_
  rintro e y2 ⟨rfl, hl⟩
  have LX := Lib.hid (LY.out.trans (hl.mono LY.out.size))
  clear hl a0 a1 a2 a3 a4 a5 a6 a7 a8 a9 a10 a11 q0 q1
  go_wp2
  go_ret
  exact ⟨rfl, LX.out⟩
end Go.Proofs.YtlakegeabnjegaaGreatDoor.LawMsgs

/- What the world's shape and the listed tables give the walks of this seat, and one world in which the listed tables of unicode/utf8, math/bits and internal/strconv read as their text lays them. -/
namespace Go.Proofs.YtlakegeabnjegaaGreatDoor.LaidT
open Go.RowKit Go.Proofs.YtlakegeabnjegaaGreatDoor.Labels Go.Proofs.YtlakegeabnjegaaGreatDoor.Num

theorem env {W : World} (h : W.ShapedOpen Tryz.prog) : Env W := Tryz.laysM146.s1_3 W h

def acc : List Int := [128, 191, 160, 191, 128, 159, 144, 191, 128, 143, 0, 0, 0, 0, 0, 0, 0, 0, 0, 0, 0, 0, 0, 0, 0, 0, 0, 0, 0, 0, 0, 0]
theorem gFirst : Tryz.prog.globalNamed "unicode/utf8.first" = some 4 := by kernel_rfl
theorem gAcc : Tryz.prog.globalNamed "unicode/utf8.acceptRanges" = some 5 := by kernel_rfl
/-- A block of cells, with other cells in it. -/
def put (cs : Array Value) : Obj → Obj
  | .cells _ t frozen => .cells cs t frozen
  | o => o
def tab32 : List Int := [0, 1, 28, 2, 29, 14, 24, 3, 30, 22, 20, 15, 25, 17, 4, 8, 31, 27, 13, 23, 21, 19, 16, 7, 26, 12, 18, 6, 11, 5, 10, 9]
def tab64 : List Int := [0, 1, 56, 2, 57, 49, 28, 3, 61, 58, 42, 50, 38, 29, 17, 4, 62, 47, 59, 36, 45, 43, 51, 22, 53, 39, 33, 30, 24, 18, 12, 5, 63, 55, 48, 27, 60, 41, 37, 16, 46, 35, 44, 21, 52, 32, 23, 11, 54, 26, 40, 15, 34, 20, 31, 10, 25, 14, 19, 9, 13, 8, 7, 6]
/-- The settled world, the five tables holding what their text lays. -/
noncomputable def laidWorld (os : Os) : World :=
  { World.holding Tryz.prog os ⟨#[], #[], []⟩ with heap := (((((World.holding Tryz.prog os ⟨#[], #[], []⟩).heap.modify 4 (put (Go.Pinned.utf8FirstZ.map (fun n : Nat => Value.int .u8 (n : Int))).toArray)).modify 5 (put (acc.map (Value.int .u8)).toArray)).modify 1 (put (Lib.pow10Tab.map (Value.int .u64)).toArray)).modify 2 (put (tab32.map (Value.int .u8)).toArray)).modify 3 (put (tab64.map (Value.int .u8)).toArray) }
def five : List (String × DataW Unit) := [("math/bits.deBruijn32tab", Rows.laid_math_bits_deBruijn32tab), ("math/bits.deBruijn64tab", Rows.laid_math_bits_deBruijn64tab), ("internal/strconv.uint64pow10", Rows.laid_internal_strconv_uint64pow10), ("unicode/utf8.acceptRanges", Rows.laid_unicode_utf8_acceptRanges), ("unicode/utf8.first", Rows.laid_unicode_utf8_first)]
theorem powLaid : (Rows.laid_internal_strconv_uint64pow10 : DataW Unit) = Lib.tabData .u64 Lib.pow10Tab := by kernel_rfl
/-- The table of powers of ten, out of what the rows list. -/
theorem tab {W : World} (h : laidMet Tryz.prog five W) : Tab W := by
  unfold five at h
  have h1 := h.tail.tail
  rw [powLaid] at h1
  exact Lib.tabIs_of_head gPow gPowType Tryz.underlying112 Tryz.underlying103 cells64 cellsPow h1
theorem laid_met (os : Os) (args : Array Value) : laidMet Tryz.prog five ((laidWorld os).forCall (fun _ _ => 0) ⟨#[], args, []⟩).memory :=
  laidMet_of_run' 8 (by kernel_rfl) (by kernel_rfl)
end Go.Proofs.YtlakegeabnjegaaGreatDoor.LaidT

/- The card of the law FnMsgs: it returns true at every slice of bytes: a reply has the number, the question and the wish of what was asked; the message functions answer as their models. -/
namespace Go.Proofs.YtlakegeabnjegaaGreatDoor.msgsCard
open Go.ChangeShapes Go.WideShapes Go.ChangeAt Go.RowKit Go.Proofs.YtlakegeabnjegaaGreatDoor.LaidT Go.Proofs.YtlakegeabnjegaaGreatDoor.Mem

theorem own : ownKnob Tryz.prog.godebug = none := by kernel_rfl
theorem laidOut : laidOutB Tryz.prog = true := by kernel_rfl

set_option maxRecDepth 100000 in
theorem contract (H : Type) (enc : TypeId × Value → H) (W : World) (base : Nat) (args : Array Value) (ds gs : List (DataW H)) (before : List MemPlace)
    (hval0 : ∀ (j : Nat) t v, Tryz.f3.params[j]? = some t → args[j]? = some v → Value.okWide Tryz.prog W .any base t v)
    (hW : DataW.Whole enc Tryz.prog Tryz.f3.params.toList Rows.fnMsgsSpec.vars false W args.toList ds gs before) (hsh : W.ShapedOpen Tryz.prog) (hL : laidMetH Tryz.prog Rows.fnMsgsRow.laid W) :
    Calls Tryz.prog 3 args W fun e W' => ∃ v, e = .returned v ∧ Rows.fnMsgsSpec.post enc Tryz.prog Tryz.f3 false true false false W args v W' := by
  have hL' : laidMet Tryz.prog five W := hL
  have hval : ∀ (j : Nat) t v, Tryz.f3.params[j]? = some t → args[j]? = some v → Value.okWide Tryz.prog W .any base t v := hval0
  have hW' := hW
  obtain ⟨p, q, hA0, hV, rfl, _, _⟩ := hW
  have hA : DataW.TrodAll enc Tryz.prog W 0 (fun _ => true) true Tryz.f3.params.toList args.toList ds p := hA0
  rw [Tryz.params3] at hA hval
  obtain ⟨v0, vs0, d0, ds0, p0, q0, _, rfl, rfl, h0, r0⟩ := trodAll_cons hA
  obtain ⟨rfl, rfl, rfl⟩ := trodAll_nil r0
  obtain rfl : args = #[v0] := by cases args; simp_all
  obtain ⟨rfl, rfl⟩ := trodVars_none hV
  obtain ⟨a0, len0, cap0, rfl⟩ := okWide_slice Tryz.underlying22 (hval 0 22 v0 rfl rfl)
  have k0 := h0
  have lt0 : ∀ x ∈ p0, x.block < W.heap.size := by obtain ⟨m, hm⟩ := k0; exact DataW.trod_lt m _ _ _ hm
  obtain ⟨l0, s0, c0, z0⟩ : ∃ l : List UInt8, Sl W W.heap.size a0 len0 l ∧ len0 ≤ cap0 ∧ (a0 = none → len0 = 0 ∧ cap0 = 0) := by
    obtain ⟨fuel, hf⟩ := h0
    rcases open_ints Tryz.underlying22 Tryz.underlying5 (by kernel_rfl) hf with ⟨hcs, _⟩ | ⟨x, l, c, zs, hcs, _, hl, hm, hz, _, hcell, hwz⟩
    · simp [Value.cells] at hcs
      obtain ⟨rfl, rfl, rfl⟩ := hcs
      exact sl_of_row (zs := []) (.inl ⟨rfl, rfl, rfl, rfl⟩)
    · simp [Value.cells] at hcs
      obtain ⟨rfl, rfl, rfl⟩ := hcs
      exact sl_of_row (zs := zs) (.inr ⟨_, rfl, hl, hm, by simpa using hz, hcell, hwz⟩)
  clear hA0 hval0
  refine (LawMsgs.walk a0 len0 cap0 l0 W (env hsh) (tab hL') s0 c0 z0).mono fun e W' ⟨he, bel⟩ => ?_
  subst he
  exact ⟨_, rfl, _, _, _, [], _, [], hW', trodAll_mk1 (shut_bool Tryz.underlying4 _), (trodAll_cons_mk (Below.trod laidOut (by kernel_rfl) (of_decide_eq_true (by kernel_rfl)) k0 bel lt0) trodAll_mk0), rfl, bel.frame _, fun h => by cases h⟩

theorem reads (os : Os) {H : Type} (enc : TypeId × Value → H) : ∃ places, DataW.whole enc Tryz.prog ((laidWorld os).forCall (fun _ _ => 0) ⟨#[], #[.slice none 0 0], []⟩).memory Tryz.f3.params.toList Rows.fnMsgsSpec.vars false #[Value.slice none 0 0].toList 8 = some ([.nil], [], places) :=
  ⟨[], by kernel_rfl⟩

set_option maxRecDepth 100000 in
theorem lifted (os : Os) (started : os.Started) (H : Type) (enc : TypeId × Value → H) (F : Stop.Interp) :
    ReturnsInHanded {} Tryz.checked os 3 .any ((OpenSpec.ofChange Rows.fnMsgsSpec).preRow enc Tryz.prog Tryz.f3 Rows.fnMsgsRow.domain false Rows.fnMsgsRow.laid) (((OpenSpec.ofChange Rows.fnMsgsSpec).at F).post enc Tryz.prog Tryz.f3 false true false false) := by
  obtain ⟨places, hx⟩ := reads os enc
  refine returnsInHanded_of_row (C := Tryz.checked) (s := OpenSpec.ofChange Rows.fnMsgsSpec) own started (by kernel_rfl) Tryz.func3
    (witness_row_at (enc := enc) (C := Tryz.checked) false (laidWorld os) #[.slice none 0 0] rfl (by kernel_rfl) (by kernel_rfl) (by kernel_rfl)
      (OpenSpec.preRow_of_cond 8 hx (by kernel_rfl) (fun k hk => by cases hk) (by kernel_rfl) (laid_met os _))) ?_
  intro W base args ds gs before hval hW _ _ _ hL hsh _
  exact contract H enc W base args ds gs before hval hW hsh hL

theorem said : Rows.FnMsgsSaid :=
  OpenClaim.holds_of_cond 3 Tryz.f3 rfl rfl rfl rfl rfl rfl rfl ⟨rfl, rfl, rfl, rfl, rfl⟩ rfl rfl rfl rfl rfl (by kernel_rfl) Tryz.func3 (by kernel_rfl)
    (of_decide_eq_true (by kernel_rfl)) (by unfold Func.isWrapper; first | (rw [if_pos (by decide +kernel)]; kernel_rfl) | (rw [if_neg (by decide +kernel)]; exact ⟨rfl, rfl⟩))
    (fun os started H enc _ F => by rw [OpenClaim.pre_eq_preRow]; exact lifted os started H enc F)

theorem plain (f : FuncId) (fn : Func) (hf : Tryz.pinned.checked.prog.funcNamed "loop.example/g00497/laws.FnMsgs" = some f) (hfn : Tryz.pinned.checked.prog.funcs[f]? = some fn) :
    false = Tryz.pinned.checked.prog.looks [] ∧ ∀ (j : Nat) t, fn.params[j]? = some t → Tryz.pinned.checked.prog.wantsStandIn t = false := by
  obtain rfl : f = 3 := Option.some.inj ((show Tryz.prog.funcNamed "loop.example/g00497/laws.FnMsgs" = some 3 by kernel_rfl).symm.trans hf) |>.symm
  obtain rfl : fn = Tryz.f3 := (Option.some.inj (Tryz.func3.symm.trans hfn)).symm
  refine ⟨by kernel_rfl, fun j t ht => ?_⟩
  rw [Tryz.params3] at ht
  obtain rfl : t = 22 := by simpa using Array.mem_of_getElem? ht
  exact (show Tryz.prog.wantsStandIn 22 = false by kernel_rfl)

theorem card : Rows.FnMsgsCardSaid :=
  Claim7.holds_tied_plain_at .later [] _ _ _ _ said (fun _ h => by cases h) (by kernel_rfl) (fun _ h => by cases h) fnMsgs_row_tie rfl ⟨rfl, rfl⟩ (by kernel_rfl) rfl plain (by kernel_rfl)
end Go.Proofs.YtlakegeabnjegaaGreatDoor.msgsCard
namespace Go.Proofs.YtlakegeabnjegaaGreatDoor
theorem fnMsgs_holds : Rows.FnMsgsCardSaid := msgsCard.card
end Go.Proofs.YtlakegeabnjegaaGreatDoor
