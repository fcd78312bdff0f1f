/- GetMsg answers as its model at every slice of bytes. -/
import Derived.Test.YtkfibepejlgniaaGreatDoorExactGetMsgP4
import Derived.Test.YtkfibepejlgniaaGreatDoorCopy
import Derived.Test.YtkfibepejlgniaaGreatDoorExactGetMsgP5
import Derived.Deep.RegionHeld3
import Derived.Test.YtkfibepejlgniaaGreatDoorLabels
import Derived.LaidLaws
import Derived.Test.YtkfibepejlgniaaGreatDoorCards
import Derived.Test.YtkfibepejlgniaaGreatDoorTie
import Derived.ProofKit
import Derived.OpenShut
import Derived.ShutString
import Derived.ChangeOld
import Derived.Below
import Derived.Deep.DeepHandedRow
/- The law FnExactGetMsg on bytes that are no message. -/
namespace Go.Proofs.YtkfibepejlgniaaGreatDoor.GetMsgBad
open Go.RowKit Go.Proofs.YtkfibepejlgniaaGreatDoor.Mem Go.Proofs.YtkfibepejlgniaaGreatDoor.MemR Go.Proofs.YtkfibepejlgniaaGreatDoor.Copy Go.Proofs.YtkfibepejlgniaaGreatDoor.Eq Go.Proofs.YtkfibepejlgniaaGreatDoor.BoxR Go.Proofs.YtkfibepejlgniaaGreatDoor.MemM Go.Proofs.YtkfibepejlgniaaGreatDoor.ResM Go.Proofs.YtkfibepejlgniaaGreatDoor.EqM Go.Proofs.YtkfibepejlgniaaGreatDoor.MarkR3 Go.Proofs.YtkfibepejlgniaaGreatDoor.MarkM Go.Proofs.YtkfibepejlgniaaGreatDoor.Labels Go.Proofs.YtkfibepejlgniaaGreatDoor.HeadRd Go.Proofs.YtkfibepejlgniaaGreatDoor.MsgMath Go.Proofs.YtkfibepejlgniaaGreatDoor.GetMS Go.Proofs.YtkfibepejlgniaaGreatDoor.GetM

set_option maxRecDepth 100000 in
set_option maxHeartbeats 16000000 in
theorem walk (A : Option Addr) (n c : Nat) (l : List UInt8) (w : World) (he : Env w) (hs : Sl w w.heap.size A n l) (_hc : n ≤ c) (_hnil : A = none → n = 0 ∧ c = 0) (hg : gmb l = false) (hbig : ¬ 1048576 < n) :
    Calls Tryz.prog 7 #[.slice A n c] w fun e w' => e = .returned (.bool true) ∧ Below w.heap.size w w' := by
  have hb' : ¬ (1048576 : Int) < (n : Int) := by omega
  have SP := Lib.hid (fun A w hs => GetM.spec_bad A n n l w hs (Nat.le_refl _) (by omega) hg)
  have IM := Lib.hid (fun A w he hs => GetM.impl_bad A n n l w he hs (Nat.le_refl _) (by omega) hg)
  have HS := Lib.hid hs
  have HL := Lib.hid hs.1
  have HE := Lib.hid he
  have L0 := Lib.hid (Below.refl w.heap.size w)
  clear hs he hg
  go_enter Tryz.func7, Tryz.ntmps7
  go_wp2_with fail
  refine (toByteS_any A n c l _ ((HS.out.below L0.out).wider L0.out.size) (by omega)).mono ?_
  rintro e w1 ⟨rfl, hb, hl⟩
  have et : ∃ g, w.heap.size = g := ⟨_, rfl⟩
  obtain ⟨t, ht⟩ := et
  have gt : w.heap.size ≤ t := by omega
  rw [ht] at hb ⊢
  have T_1 := Lib.hid hb
  have L1 := Lib.hid (L0.out.trans (hl.mono L0.out.size))
  clear hl L0
  clear hb ht gt 
  go_wp2_with fail
  refine (SP.out _ _ (HL.out ▸ (T_1.out.sl.wider T_1.out.lt))).mono ?_
  rintro e w2 ⟨rfl, hl⟩
  have L2 := Lib.hid (L1.out.trans (hl.mono L1.out.size))
  clear hl L1 T_1
  have al : Below w2.heap.size w2 (w2.alloc (.cells #[.int .i64 zh.id, .bool zh.rp, .bool zh.au, .bool zh.ct, .bool zh.wa, .bool zh.ca, .int .i64 zh.code, .string zh.qn, .int .i64 zh.qt, .slice none 0 0, .slice none 0 0, .slice none 0 0] 28)) := (Below.refl _ _).alloc (Nat.le_refl _) _
  have W3 := Lib.hid (mx_new w2 28 zh (.slice none 0 0) (.slice none 0 0) (.slice none 0 0))
  have L3 := Lib.hid (L2.out.trans (al.mono L2.out.size))
  clear al L2
  go_wp2_with fail
  refine (toByteS_any A n c l _ ((HS.out.below L3.out).wider L3.out.size) (by omega)).mono ?_
  rintro e w4 ⟨rfl, hb, hl⟩
  have ex : ∃ g, (w2.alloc (.cells #[.int .i64 zh.id, .bool zh.rp, .bool zh.au, .bool zh.ct, .bool zh.wa, .bool zh.ca, .int .i64 zh.code, .string zh.qn, .int .i64 zh.qt, .slice none 0 0, .slice none 0 0, .slice none 0 0] 28)).heap.size = g := ⟨_, rfl⟩
  obtain ⟨x, hx⟩ := ex
  have gx : (w2.alloc (.cells #[.int .i64 zh.id, .bool zh.rp, .bool zh.au, .bool zh.ct, .bool zh.wa, .bool zh.ca, .int .i64 zh.code, .string zh.qn, .int .i64 zh.qt, .slice none 0 0, .slice none 0 0, .slice none 0 0] 28)).heap.size ≤ x := by omega
  rw [hx] at hb ⊢
  have X_4 := Lib.hid hb
  have OX : Hid (w2.heap.size < x) := Nat.lt_of_lt_of_le W3.out.lt gx
  have GX : Hid (w.heap.size ≤ x) := Nat.le_trans L3.out.size gx
  have L4 := Lib.hid (L3.out.trans (hl.mono L3.out.size))
  have W4 := Lib.hid (W3.out.below hl)
  clear hl L3 W3
  clear hb hx gx 
  generalize w2.heap.size = gw at *
  go_wp2_with fail
  refine (IM.out _ _ (HE.out.below L4.out) (HL.out ▸ (X_4.out.sl.wider X_4.out.lt))).mono ?_
  rintro e w5 ⟨rfl, hl⟩
  have L5 := Lib.hid (L4.out.trans (hl.mono L4.out.size))
  have W5 := Lib.hid (W4.out.below hl)
  have X_5 := Lib.hid (X_4.out.below hl X_4.out.lt)
  clear hl L4 W4 X_4
  have OB : Hid (x < w5.heap.size) := X_5.out.lt
  have al : Below w5.heap.size w5 (w5.alloc (.cells #[.int .i64 zh.id, .bool zh.rp, .bool zh.au, .bool zh.ct, .bool zh.wa, .bool zh.ca, .int .i64 zh.code, .string zh.qn, .int .i64 zh.qt, .slice none 0 0, .slice none 0 0, .slice none 0 0] 28)) := (Below.refl _ _).alloc (Nat.le_refl _) _
  have G6 := Lib.hid (mx_new w5 28 zh (.slice none 0 0) (.slice none 0 0) (.slice none 0 0))
  have L6 := Lib.hid (L5.out.trans (al.mono L5.out.size))
  have W6 := Lib.hid (W5.out.below al)
  have X_6 := Lib.hid (X_5.out.below al X_5.out.lt)
  clear al L5 W5 X_5
  obtain ⟨x0_0, x0_1, x0_2, x0_3, x0_4, x0_5, x0_6, x0_7, x0_8, x0_9, x0_10, x0_11⟩ := G6.out
  obtain ⟨x1_0, x1_1, x1_2, x1_3, x1_4, x1_5, x1_6, x1_7, x1_8, x1_9, x1_10, x1_11⟩ := W6.out
  go_wp2_with fail
  refine (eqMsg_same zh none none 0 0 0 [] none none 0 0 0 [] none none 0 0 0 [] _ Sr.nil Sr.nil (by omega) Sr.nil Sr.nil (by omega) Sr.nil Sr.nil (by omega)).mono ?_
  rintro e w7 ⟨rfl, hl⟩
  have L7 := Lib.hid (L6.out.trans (hl.mono L6.out.size))
  have W7 := Lib.hid (W6.out.below hl)
  have X_7 := Lib.hid (X_6.out.below hl X_6.out.lt)
  have G7 := Lib.hid (G6.out.below hl)
  clear hl L6 W6 X_6 G6
  clear  x0_0 x0_1 x0_2 x0_3 x0_4 x0_5 x0_6 x0_7 x0_8 x0_9 x0_10 x0_11 x1_0 x1_1 x1_2 x1_3 x1_4 x1_5 x1_6 x1_7 x1_8 x1_9 x1_10 x1_11
  generalize w5.heap.size = gg at *
  go_wp2_with fail
  refine (toByteS_any A n c l _ ((HS.out.below L7.out).wider L7.out.size) (by omega)).mono ?_
  rintro e w8 ⟨rfl, hb, hl⟩
  have ey : ∃ g, w7.heap.size = g := ⟨_, rfl⟩
  obtain ⟨y, hy⟩ := ey
  have gy : w7.heap.size ≤ y := by omega
  rw [hy] at hb ⊢
  have Y_8 := Lib.hid hb
  have L8 := Lib.hid (L7.out.trans (hl.mono L7.out.size))
  have W8 := Lib.hid (W7.out.below hl)
  have X_8 := Lib.hid (X_7.out.below hl X_7.out.lt)
  have G8 := Lib.hid (G7.out.below hl)
  clear hl L7 W7 X_7 G7
  clear hb hy gy 
  go_wp2_with fail
  refine (eqByteS_same _ _ n n n n l _ (HL.out ▸ (X_8.out.sl.wider X_8.out.lt)) (HL.out ▸ (Y_8.out.sl.wider Y_8.out.lt)) (by omega) (by omega)).mono ?_
  rintro e w9 ⟨rfl, hl⟩
  have L9 := Lib.hid (L8.out.trans (hl.mono L8.out.size))
  have W9 := Lib.hid (W8.out.below hl)
  have X_9 := Lib.hid (X_8.out.below hl X_8.out.lt)
  have G9 := Lib.hid (G8.out.below hl)
  clear hl L8 W8 X_8 G8 Y_8
  go_wp2_with fail
  refine (markByteS_one x n n l [] _ (by rw [List.append_nil]; exact X_9.out) HL.out (by omega)).mono ?_
  rintro e w10 ⟨rfl, -, ht⟩
  have L10 := Lib.hid (L9.out.grown ht L9.out.size (fun j hj => by cases hj; exact GX.out))
  have W10 := Lib.hid (W9.out.grown ht (fun e => by have := Option.some.inj e; have := OX.out; have := OB.out; omega))
  have G10 := Lib.hid (G9.out.grown ht (fun e => by have := Option.some.inj e; have := OX.out; have := OB.out; omega))
  clear ht L9 W9 X_9 G9  
  have np : ¬ (1 + (n : Int)) < 0 := by omega
  have np2 : decide ((1 + (n : Int)) < 0) = false := decide_eq_false np
  obtain ⟨x0_0, x0_1, x0_2, x0_3, x0_4, x0_5, x0_6, x0_7, x0_8, x0_9, x0_10, x0_11⟩ := G10.out
  obtain ⟨x1_0, x1_1, x1_2, x1_3, x1_4, x1_5, x1_6, x1_7, x1_8, x1_9, x1_10, x1_11⟩ := W10.out
  go_wp2_with fail
  refine (eqMsg_same zh none none 0 0 0 [] none none 0 0 0 [] none none 0 0 0 [] _ Sr.nil Sr.nil (by omega) Sr.nil Sr.nil (by omega) Sr.nil Sr.nil (by omega)).mono ?_
  rintro e w11 ⟨rfl, hl⟩
  have L11 := Lib.hid (L10.out.trans (hl.mono L10.out.size))
  have W11 := Lib.hid (W10.out.below hl)
  have G11 := Lib.hid (G10.out.below hl)
  clear hl L10 W10 G10
  clear  x0_0 x0_1 x0_2 x0_3 x0_4 x0_5 x0_6 x0_7 x0_8 x0_9 x0_10 x0_11 x1_0 x1_1 x1_2 x1_3 x1_4 x1_5 x1_6 x1_7 x1_8 x1_9 x1_10 x1_11
  obtain ⟨x0_0, x0_1, x0_2, x0_3, x0_4, x0_5, x0_6, x0_7, x0_8, x0_9, x0_10, x0_11⟩ := G11.out
  go_wp2_with fail
  refine (markMsg_none zh 1 _).mono ?_
  rintro e w12 ⟨rfl, hl⟩
  have L12 := Lib.hid (L11.out.trans (hl.mono L11.out.size))
  have W12 := Lib.hid (W11.out.below hl)
  have G12 := Lib.hid (G11.out.below hl)
  clear hl L11 W11 G11
  clear  x0_0 x0_1 x0_2 x0_3 x0_4 x0_5 x0_6 x0_7 x0_8 x0_9 x0_10 x0_11
  obtain ⟨x0_0, x0_1, x0_2, x0_3, x0_4, x0_5, x0_6, x0_7, x0_8, x0_9, x0_10, x0_11⟩ := G12.out
  go_wp2_with fail
  refine (heldMsg_none zh 1 _ (by omega)).mono ?_
  rintro e w13 ⟨rfl, hl⟩
  have L13 := Lib.hid (L12.out.trans (hl.mono L12.out.size))
  have W13 := Lib.hid (W12.out.below hl)
  have G13 := Lib.hid (G12.out.below hl)
  clear hl L12 W12 G12
  clear  x0_0 x0_1 x0_2 x0_3 x0_4 x0_5 x0_6 x0_7 x0_8 x0_9 x0_10 x0_11
  go_wp2_with fail
  refine (toByteS_any A n c l _ ((HS.out.below L13.out).wider L13.out.size) (by omega)).mono ?_
  rintro e w14 ⟨rfl, hb, hl⟩
  have eu : ∃ g, w13.heap.size = g := ⟨_, rfl⟩
  obtain ⟨u, hu⟩ := eu
  have gu : w13.heap.size ≤ u := by omega
  rw [hu] at hb ⊢
  have U_14 := Lib.hid hb
  have L14 := Lib.hid (L13.out.trans (hl.mono L13.out.size))
  have W14 := Lib.hid (W13.out.below hl)
  have G14 := Lib.hid (G13.out.below hl)
  clear hl L13 W13 G13
  clear hb hu gu 
  go_wp2_with fail
  refine (IM.out _ _ (HE.out.below L14.out) (HL.out ▸ (U_14.out.sl.wider U_14.out.lt))).mono ?_
  rintro e w15 ⟨rfl, hl⟩
  have L15 := Lib.hid (L14.out.trans (hl.mono L14.out.size))
  have W15 := Lib.hid (W14.out.below hl)
  have G15 := Lib.hid (G14.out.below hl)
  clear hl L14 W14 G14 U_14
  have al : Below w15.heap.size w15 (w15.alloc (.cells #[.int .i64 zh.id, .bool zh.rp, .bool zh.au, .bool zh.ct, .bool zh.wa, .bool zh.ca, .int .i64 zh.code, .string zh.qn, .int .i64 zh.qt, .slice none 0 0, .slice none 0 0, .slice none 0 0] 28)) := (Below.refl _ _).alloc (Nat.le_refl _) _
  have K16 := Lib.hid (mx_new w15 28 zh (.slice none 0 0) (.slice none 0 0) (.slice none 0 0))
  have L16 := Lib.hid (L15.out.trans (al.mono L15.out.size))
  have W16 := Lib.hid (W15.out.below al)
  have G16 := Lib.hid (G15.out.below al)
  clear al L15 W15 G15
  obtain ⟨x0_0, x0_1, x0_2, x0_3, x0_4, x0_5, x0_6, x0_7, x0_8, x0_9, x0_10, x0_11⟩ := K16.out
  obtain ⟨x1_0, x1_1, x1_2, x1_3, x1_4, x1_5, x1_6, x1_7, x1_8, x1_9, x1_10, x1_11⟩ := W16.out
  go_wp2_with fail
  refine (eqMsg_same zh none none 0 0 0 [] none none 0 0 0 [] none none 0 0 0 [] _ Sr.nil Sr.nil (by omega) Sr.nil Sr.nil (by omega) Sr.nil Sr.nil (by omega)).mono ?_
  rintro e w17 ⟨rfl, hl⟩
  have L17 := Lib.hid (L16.out.trans (hl.mono L16.out.size))
  have G17 := Lib.hid (G16.out.below hl)
  clear hl L16 W16 G16 K16
  clear  x0_0 x0_1 x0_2 x0_3 x0_4 x0_5 x0_6 x0_7 x0_8 x0_9 x0_10 x0_11 x1_0 x1_1 x1_2 x1_3 x1_4 x1_5 x1_6 x1_7 x1_8 x1_9 x1_10 x1_11
  obtain ⟨x0_0, x0_1, x0_2, x0_3, x0_4, x0_5, x0_6, x0_7, x0_8, x0_9, x0_10, x0_11⟩ := G17.out
  go_wp2_with fail
  refine (heldMsg_none zh 1 _ (by omega)).mono ?_
  rintro e w18 ⟨rfl, hl⟩
  have L18 := Lib.hid (L17.out.trans (hl.mono L17.out.size))
  clear hl L17 G17
  clear  x0_0 x0_1 x0_2 x0_3 x0_4 x0_5 x0_6 x0_7 x0_8 x0_9 x0_10 x0_11
  go_wp2
  go_ret
  exact ⟨rfl, L18.out⟩
end Go.Proofs.YtkfibepejlgniaaGreatDoor.GetMsgBad

/- The law FnExactGetMsg on bytes that are a message. -/
namespace Go.Proofs.YtkfibepejlgniaaGreatDoor.GetMsgGood
open Go.RowKit Go.Proofs.YtkfibepejlgniaaGreatDoor.Mem Go.Proofs.YtkfibepejlgniaaGreatDoor.MemR Go.Proofs.YtkfibepejlgniaaGreatDoor.Copy Go.Proofs.YtkfibepejlgniaaGreatDoor.Eq Go.Proofs.YtkfibepejlgniaaGreatDoor.BoxR Go.Proofs.YtkfibepejlgniaaGreatDoor.MemM Go.Proofs.YtkfibepejlgniaaGreatDoor.ResM Go.Proofs.YtkfibepejlgniaaGreatDoor.EqM Go.Proofs.YtkfibepejlgniaaGreatDoor.MarkR3 Go.Proofs.YtkfibepejlgniaaGreatDoor.MarkM Go.Proofs.YtkfibepejlgniaaGreatDoor.Labels Go.Proofs.YtkfibepejlgniaaGreatDoor.HeadRd Go.Proofs.YtkfibepejlgniaaGreatDoor.MsgMath Go.Proofs.YtkfibepejlgniaaGreatDoor.GetMS Go.Proofs.YtkfibepejlgniaaGreatDoor.GetM

set_option maxRecDepth 100000 in
set_option maxHeartbeats 16000000 in
theorem walk (A : Option Addr) (n c : Nat) (l : List UInt8) (w : World) (he : Env w) (hs : Sl w w.heap.size A n l) (_hc : n ≤ c) (_hnil : A = none → n = 0 ∧ c = 0) (hg : gmb l = true) (hbig : ¬ 1048576 < n) :
    Calls Tryz.prog 7 #[.slice A n c] w fun e w' => e = .returned (.bool true) ∧ Below w.heap.size w w' := by
  have hb' : ¬ (1048576 : Int) < (n : Int) := by omega
  have SP := Lib.hid (fun A w hs => GetM.spec_good A n n l w hs (Nat.le_refl _) (by omega) hg)
  have IM := Lib.hid (fun A w he hs => GetM.impl_good A n n l w he hs (Nat.le_refl _) (by omega) hg)
  have N1 : (s1 l).2.2.length ≤ 8 := GetsM.grA_len _ _ _
  have N2 : (s2 l).2.2.length ≤ 8 := GetsM.grA_len _ _ _
  have N3 : (s3 l).2.2.length ≤ 8 := GetsM.grA_len _ _ _
  generalize gmh l = h at *
  generalize (s1 l).2.2 = l1 at *
  generalize (s2 l).2.2 = l2 at *
  generalize (s3 l).2.2 = l3 at *
  obtain ⟨n1, hn1⟩ : ∃ n, l1.length = n := ⟨_, rfl⟩
  rw [hn1] at N1
  obtain ⟨n2, hn2⟩ : ∃ n, l2.length = n := ⟨_, rfl⟩
  rw [hn2] at N2
  obtain ⟨n3, hn3⟩ : ∃ n, l3.length = n := ⟨_, rfl⟩
  rw [hn3] at N3
  rw [hn1, hn2, hn3] at SP IM
  have B1 := Lib.hid hn1
  have B2 := Lib.hid hn2
  have B3 := Lib.hid hn3
  clear hn1 hn2 hn3
  have HS := Lib.hid hs
  have HL := Lib.hid hs.1
  have HE := Lib.hid he
  have L0 := Lib.hid (Below.refl w.heap.size w)
  clear hs he hg
  go_enter Tryz.func7, Tryz.ntmps7
  go_wp2_with fail
  refine (toByteS_any A n c l _ ((HS.out.below L0.out).wider L0.out.size) (by omega)).mono ?_
  rintro e w1 ⟨rfl, hb, hl⟩
  have et : ∃ g, w.heap.size = g := ⟨_, rfl⟩
  obtain ⟨t, ht⟩ := et
  have gt : w.heap.size ≤ t := by omega
  rw [ht] at hb ⊢
  have T_1 := Lib.hid hb
  have L1 := Lib.hid (L0.out.trans (hl.mono L0.out.size))
  clear hl L0
  clear hb ht gt 
  go_wp2_with fail
  refine (SP.out _ _ (HL.out ▸ (T_1.out.sl.wider T_1.out.lt))).mono ?_
  rintro e w2 ⟨v1, f1, rv1, v2, f2, rv2, v3, f3, rv3, rfl, hb1, hb2, hb3, hg, h12, h23, hl⟩
  have V1_2 := Lib.hid hb1
  have V2_2 := Lib.hid hb2
  have V3_2 := Lib.hid hb3
  have OV : Hid (w.heap.size ≤ v1 ∧ v1 < v2 ∧ v2 < v3) := ⟨Nat.le_trans L1.out.size hg, h12, h23⟩
  have L2 := Lib.hid (L1.out.trans (hl.mono L1.out.size))
  clear hl L1 T_1
  clear hb1 hb2 hb3 hg h12 h23 
  have OW : Hid (v3 < w2.heap.size) := V3_2.out.lt
  have al : Below w2.heap.size w2 (w2.alloc (.cells #[.int .i64 h.id, .bool h.rp, .bool h.au, .bool h.ct, .bool h.wa, .bool h.ca, .int .i64 h.code, .string h.qn, .int .i64 h.qt, .slice (some ⟨v1, 0, none⟩) n1 f1, .slice (some ⟨v2, 0, none⟩) n2 f2, .slice (some ⟨v3, 0, none⟩) n3 f3] 28)) := (Below.refl _ _).alloc (Nat.le_refl _) _
  have W3 := Lib.hid (mx_new w2 28 h (.slice (some ⟨v1, 0, none⟩) n1 f1) (.slice (some ⟨v2, 0, none⟩) n2 f2) (.slice (some ⟨v3, 0, none⟩) n3 f3))
  have L3 := Lib.hid (L2.out.trans (al.mono L2.out.size))
  have V1_3 := Lib.hid (V1_2.out.below al V1_2.out.lt)
  have V2_3 := Lib.hid (V2_2.out.below al V2_2.out.lt)
  have V3_3 := Lib.hid (V3_2.out.below al V3_2.out.lt)
  clear al L2 V1_2 V2_2 V3_2
  go_wp2_with fail
  refine (toByteS_any A n c l _ ((HS.out.below L3.out).wider L3.out.size) (by omega)).mono ?_
  rintro e w4 ⟨rfl, hb, hl⟩
  have ex : ∃ g, (w2.alloc (.cells #[.int .i64 h.id, .bool h.rp, .bool h.au, .bool h.ct, .bool h.wa, .bool h.ca, .int .i64 h.code, .string h.qn, .int .i64 h.qt, .slice (some ⟨v1, 0, none⟩) n1 f1, .slice (some ⟨v2, 0, none⟩) n2 f2, .slice (some ⟨v3, 0, none⟩) n3 f3] 28)).heap.size = g := ⟨_, rfl⟩
  obtain ⟨x, hx⟩ := ex
  have gx : (w2.alloc (.cells #[.int .i64 h.id, .bool h.rp, .bool h.au, .bool h.ct, .bool h.wa, .bool h.ca, .int .i64 h.code, .string h.qn, .int .i64 h.qt, .slice (some ⟨v1, 0, none⟩) n1 f1, .slice (some ⟨v2, 0, none⟩) n2 f2, .slice (some ⟨v3, 0, none⟩) n3 f3] 28)).heap.size ≤ x := by omega
  rw [hx] at hb ⊢
  have X_4 := Lib.hid hb
  have OX : Hid (w2.heap.size < x) := Nat.lt_of_lt_of_le W3.out.lt gx
  have GX : Hid (w.heap.size ≤ x) := Nat.le_trans L3.out.size gx
  have L4 := Lib.hid (L3.out.trans (hl.mono L3.out.size))
  have V1_4 := Lib.hid (V1_3.out.below hl V1_3.out.lt)
  have V2_4 := Lib.hid (V2_3.out.below hl V2_3.out.lt)
  have V3_4 := Lib.hid (V3_3.out.below hl V3_3.out.lt)
  have W4 := Lib.hid (W3.out.below hl)
  clear hl L3 V1_3 V2_3 V3_3 W3
  clear hb hx gx 
  generalize w2.heap.size = gw at *
  go_wp2_with fail
  refine (IM.out _ _ (HE.out.below L4.out) (HL.out ▸ (X_4.out.sl.wider X_4.out.lt))).mono ?_
  rintro e w5 ⟨g1, z1, rg1, g2, z2, rg2, g3, z3, rg3, rfl, hb1, hb2, hb3, hg, h12, h23, hl⟩
  have G1_5 := Lib.hid hb1
  have G2_5 := Lib.hid hb2
  have G3_5 := Lib.hid hb3
  have OG : Hid (x < g1 ∧ g1 < g2 ∧ g2 < g3) := ⟨Nat.lt_of_lt_of_le X_4.out.lt hg, h12, h23⟩
  have L5 := Lib.hid (L4.out.trans (hl.mono L4.out.size))
  have V1_5 := Lib.hid (V1_4.out.below hl V1_4.out.lt)
  have V2_5 := Lib.hid (V2_4.out.below hl V2_4.out.lt)
  have V3_5 := Lib.hid (V3_4.out.below hl V3_4.out.lt)
  have W5 := Lib.hid (W4.out.below hl)
  have X_5 := Lib.hid (X_4.out.below hl X_4.out.lt)
  clear hl L4 V1_4 V2_4 V3_4 W4 X_4
  clear hb1 hb2 hb3 hg h12 h23 
  have OB : Hid (x < w5.heap.size) := X_5.out.lt
  have OC : Hid (g3 < w5.heap.size) := G3_5.out.lt
  have al : Below w5.heap.size w5 (w5.alloc (.cells #[.int .i64 h.id, .bool h.rp, .bool h.au, .bool h.ct, .bool h.wa, .bool h.ca, .int .i64 h.code, .string h.qn, .int .i64 h.qt, .slice (some ⟨g1, 0, none⟩) n1 z1, .slice (some ⟨g2, 0, none⟩) n2 z2, .slice (some ⟨g3, 0, none⟩) n3 z3] 28)) := (Below.refl _ _).alloc (Nat.le_refl _) _
  have G6 := Lib.hid (mx_new w5 28 h (.slice (some ⟨g1, 0, none⟩) n1 z1) (.slice (some ⟨g2, 0, none⟩) n2 z2) (.slice (some ⟨g3, 0, none⟩) n3 z3))
  have L6 := Lib.hid (L5.out.trans (al.mono L5.out.size))
  have V1_6 := Lib.hid (V1_5.out.below al V1_5.out.lt)
  have V2_6 := Lib.hid (V2_5.out.below al V2_5.out.lt)
  have V3_6 := Lib.hid (V3_5.out.below al V3_5.out.lt)
  have W6 := Lib.hid (W5.out.below al)
  have X_6 := Lib.hid (X_5.out.below al X_5.out.lt)
  have G1_6 := Lib.hid (G1_5.out.below al G1_5.out.lt)
  have G2_6 := Lib.hid (G2_5.out.below al G2_5.out.lt)
  have G3_6 := Lib.hid (G3_5.out.below al G3_5.out.lt)
  clear al L5 V1_5 V2_5 V3_5 W5 X_5 G1_5 G2_5 G3_5
  obtain ⟨x0_0, x0_1, x0_2, x0_3, x0_4, x0_5, x0_6, x0_7, x0_8, x0_9, x0_10, x0_11⟩ := G6.out
  obtain ⟨x1_0, x1_1, x1_2, x1_3, x1_4, x1_5, x1_6, x1_7, x1_8, x1_9, x1_10, x1_11⟩ := W6.out
  go_wp2_with fail
  refine (eqMsg_same h _ _ n1 z1 f1 l1 _ _ n2 z2 f2 l2 _ _ n3 z3 f3 l3 _ (bk_sr G1_6.out B1.out) (bk_sr V1_6.out B1.out) (by omega) (bk_sr G2_6.out B2.out) (bk_sr V2_6.out B2.out) (by omega) (bk_sr G3_6.out B3.out) (bk_sr V3_6.out B3.out) (by omega)).mono ?_
  rintro e w7 ⟨rfl, hl⟩
  have L7 := Lib.hid (L6.out.trans (hl.mono L6.out.size))
  have V1_7 := Lib.hid (V1_6.out.below hl V1_6.out.lt)
  have V2_7 := Lib.hid (V2_6.out.below hl V2_6.out.lt)
  have V3_7 := Lib.hid (V3_6.out.below hl V3_6.out.lt)
  have W7 := Lib.hid (W6.out.below hl)
  have X_7 := Lib.hid (X_6.out.below hl X_6.out.lt)
  have G1_7 := Lib.hid (G1_6.out.below hl G1_6.out.lt)
  have G2_7 := Lib.hid (G2_6.out.below hl G2_6.out.lt)
  have G3_7 := Lib.hid (G3_6.out.below hl G3_6.out.lt)
  have G7 := Lib.hid (G6.out.below hl)
  clear hl L6 V1_6 V2_6 V3_6 W6 X_6 G1_6 G2_6 G3_6 G6
  clear  x0_0 x0_1 x0_2 x0_3 x0_4 x0_5 x0_6 x0_7 x0_8 x0_9 x0_10 x0_11 x1_0 x1_1 x1_2 x1_3 x1_4 x1_5 x1_6 x1_7 x1_8 x1_9 x1_10 x1_11
  generalize w5.heap.size = gg at *
  go_wp2_with fail
  refine (toByteS_any A n c l _ ((HS.out.below L7.out).wider L7.out.size) (by omega)).mono ?_
  rintro e w8 ⟨rfl, hb, hl⟩
  have ey : ∃ g, w7.heap.size = g := ⟨_, rfl⟩
  obtain ⟨y, hy⟩ := ey
  have gy : w7.heap.size ≤ y := by omega
  rw [hy] at hb ⊢
  have Y_8 := Lib.hid hb
  have L8 := Lib.hid (L7.out.trans (hl.mono L7.out.size))
  have V1_8 := Lib.hid (V1_7.out.below hl V1_7.out.lt)
  have V2_8 := Lib.hid (V2_7.out.below hl V2_7.out.lt)
  have V3_8 := Lib.hid (V3_7.out.below hl V3_7.out.lt)
  have W8 := Lib.hid (W7.out.below hl)
  have X_8 := Lib.hid (X_7.out.below hl X_7.out.lt)
  have G1_8 := Lib.hid (G1_7.out.below hl G1_7.out.lt)
  have G2_8 := Lib.hid (G2_7.out.below hl G2_7.out.lt)
  have G3_8 := Lib.hid (G3_7.out.below hl G3_7.out.lt)
  have G8 := Lib.hid (G7.out.below hl)
  clear hl L7 V1_7 V2_7 V3_7 W7 X_7 G1_7 G2_7 G3_7 G7
  clear hb hy gy 
  go_wp2_with fail
  refine (eqByteS_same _ _ n n n n l _ (HL.out ▸ (X_8.out.sl.wider X_8.out.lt)) (HL.out ▸ (Y_8.out.sl.wider Y_8.out.lt)) (by omega) (by omega)).mono ?_
  rintro e w9 ⟨rfl, hl⟩
  have L9 := Lib.hid (L8.out.trans (hl.mono L8.out.size))
  have V1_9 := Lib.hid (V1_8.out.below hl V1_8.out.lt)
  have V2_9 := Lib.hid (V2_8.out.below hl V2_8.out.lt)
  have V3_9 := Lib.hid (V3_8.out.below hl V3_8.out.lt)
  have W9 := Lib.hid (W8.out.below hl)
  have X_9 := Lib.hid (X_8.out.below hl X_8.out.lt)
  have G1_9 := Lib.hid (G1_8.out.below hl G1_8.out.lt)
  have G2_9 := Lib.hid (G2_8.out.below hl G2_8.out.lt)
  have G3_9 := Lib.hid (G3_8.out.below hl G3_8.out.lt)
  have G9 := Lib.hid (G8.out.below hl)
  clear hl L8 V1_8 V2_8 V3_8 W8 X_8 G1_8 G2_8 G3_8 G8 Y_8
  go_wp2_with fail
  refine (markByteS_one x n n l [] _ (by rw [List.append_nil]; exact X_9.out) HL.out (by omega)).mono ?_
  rintro e w10 ⟨rfl, -, ht⟩
  have L10 := Lib.hid (L9.out.grown ht L9.out.size (fun j hj => by cases hj; exact GX.out))
  have V1_10 := Lib.hid (V1_9.out.grown ht (fun e => by have := Option.some.inj e; have := OX.out; have := OB.out; have := OG.out; have := OV.out; have := OW.out; have := OC.out; omega))
  have V2_10 := Lib.hid (V2_9.out.grown ht (fun e => by have := Option.some.inj e; have := OX.out; have := OB.out; have := OG.out; have := OV.out; have := OW.out; have := OC.out; omega))
  have V3_10 := Lib.hid (V3_9.out.grown ht (fun e => by have := Option.some.inj e; have := OX.out; have := OB.out; have := OG.out; have := OV.out; have := OW.out; have := OC.out; omega))
  have W10 := Lib.hid (W9.out.grown ht (fun e => by have := Option.some.inj e; have := OX.out; have := OB.out; have := OG.out; have := OV.out; have := OW.out; have := OC.out; omega))
  have G1_10 := Lib.hid (G1_9.out.grown ht (fun e => by have := Option.some.inj e; have := OX.out; have := OB.out; have := OG.out; have := OV.out; have := OW.out; have := OC.out; omega))
  have G2_10 := Lib.hid (G2_9.out.grown ht (fun e => by have := Option.some.inj e; have := OX.out; have := OB.out; have := OG.out; have := OV.out; have := OW.out; have := OC.out; omega))
  have G3_10 := Lib.hid (G3_9.out.grown ht (fun e => by have := Option.some.inj e; have := OX.out; have := OB.out; have := OG.out; have := OV.out; have := OW.out; have := OC.out; omega))
  have G10 := Lib.hid (G9.out.grown ht (fun e => by have := Option.some.inj e; have := OX.out; have := OB.out; have := OG.out; have := OV.out; have := OW.out; have := OC.out; omega))
  clear ht L9 V1_9 V2_9 V3_9 W9 X_9 G1_9 G2_9 G3_9 G9  
  have np : ¬ (1 + (n : Int)) < 0 := by omega
  have np2 : decide ((1 + (n : Int)) < 0) = false := decide_eq_false np
  obtain ⟨x0_0, x0_1, x0_2, x0_3, x0_4, x0_5, x0_6, x0_7, x0_8, x0_9, x0_10, x0_11⟩ := G10.out
  obtain ⟨x1_0, x1_1, x1_2, x1_3, x1_4, x1_5, x1_6, x1_7, x1_8, x1_9, x1_10, x1_11⟩ := W10.out
  go_wp2_with fail
  refine (eqMsg_same h _ _ n1 z1 f1 l1 _ _ n2 z2 f2 l2 _ _ n3 z3 f3 l3 _ (bk_sr G1_10.out B1.out) (bk_sr V1_10.out B1.out) (by omega) (bk_sr G2_10.out B2.out) (bk_sr V2_10.out B2.out) (by omega) (bk_sr G3_10.out B3.out) (bk_sr V3_10.out B3.out) (by omega)).mono ?_
  rintro e w11 ⟨rfl, hl⟩
  have L11 := Lib.hid (L10.out.trans (hl.mono L10.out.size))
  have V1_11 := Lib.hid (V1_10.out.below hl V1_10.out.lt)
  have V2_11 := Lib.hid (V2_10.out.below hl V2_10.out.lt)
  have V3_11 := Lib.hid (V3_10.out.below hl V3_10.out.lt)
  have W11 := Lib.hid (W10.out.below hl)
  have G1_11 := Lib.hid (G1_10.out.below hl G1_10.out.lt)
  have G2_11 := Lib.hid (G2_10.out.below hl G2_10.out.lt)
  have G3_11 := Lib.hid (G3_10.out.below hl G3_10.out.lt)
  have G11 := Lib.hid (G10.out.below hl)
  clear hl L10 V1_10 V2_10 V3_10 W10 G1_10 G2_10 G3_10 G10
  clear  x0_0 x0_1 x0_2 x0_3 x0_4 x0_5 x0_6 x0_7 x0_8 x0_9 x0_10 x0_11 x1_0 x1_1 x1_2 x1_3 x1_4 x1_5 x1_6 x1_7 x1_8 x1_9 x1_10 x1_11
  obtain ⟨x0_0, x0_1, x0_2, x0_3, x0_4, x0_5, x0_6, x0_7, x0_8, x0_9, x0_10, x0_11⟩ := G11.out
  go_wp2_with fail
  refine (markMsg_one h g1 n1 z1 g2 n2 z2 g3 n3 z3 l1 l2 l3 rg1 rg2 rg3 _ G1_11.out G2_11.out G3_11.out B1.out B2.out B3.out (by have := OG.out; omega) (by have := OG.out; omega) (by omega)).mono ?_
  rintro e w12 ⟨rfl, hm1, hm2, hm3, ht⟩
  have M1_12 := Lib.hid hm1
  have M2_12 := Lib.hid hm2
  have M3_12 := Lib.hid hm3
  have L12 := Lib.hid (ht.below L11.out (by have := OG.out; have := GX.out; omega) (by have := OG.out; have := GX.out; omega) (by have := OG.out; have := GX.out; omega))
  have V1_12 := Lib.hid (ht.bk V1_11.out (by have := OG.out; have := OC.out; have := OW.out; have := OX.out; have := OV.out; omega) (by have := OG.out; have := OC.out; have := OW.out; have := OX.out; have := OV.out; omega) (by have := OG.out; have := OC.out; have := OW.out; have := OX.out; have := OV.out; omega))
  have V2_12 := Lib.hid (ht.bk V2_11.out (by have := OG.out; have := OC.out; have := OW.out; have := OX.out; have := OV.out; omega) (by have := OG.out; have := OC.out; have := OW.out; have := OX.out; have := OV.out; omega) (by have := OG.out; have := OC.out; have := OW.out; have := OX.out; have := OV.out; omega))
  have V3_12 := Lib.hid (ht.bk V3_11.out (by have := OG.out; have := OC.out; have := OW.out; have := OX.out; have := OV.out; omega) (by have := OG.out; have := OC.out; have := OW.out; have := OX.out; have := OV.out; omega) (by have := OG.out; have := OC.out; have := OW.out; have := OX.out; have := OV.out; omega))
  have W12 := Lib.hid (ht.mx W11.out (by have := OG.out; have := OC.out; have := OW.out; have := OX.out; have := OV.out; omega) (by have := OG.out; have := OC.out; have := OW.out; have := OX.out; have := OV.out; omega) (by have := OG.out; have := OC.out; have := OW.out; have := OX.out; have := OV.out; omega))
  have G12 := Lib.hid (ht.mx G11.out (by have := OG.out; have := OC.out; have := OW.out; have := OX.out; have := OV.out; omega) (by have := OG.out; have := OC.out; have := OW.out; have := OX.out; have := OV.out; omega) (by have := OG.out; have := OC.out; have := OW.out; have := OX.out; have := OV.out; omega))
  clear ht L11 V1_11 V2_11 V3_11 W11 G1_11 G2_11 G3_11 G11 hm1 hm2 hm3 x0_0 x0_1 x0_2 x0_3 x0_4 x0_5 x0_6 x0_7 x0_8 x0_9 x0_10 x0_11
  have HU : Hid (∃ a : Nat, 1 + 6 * (n1 + n2 + n3) = a) := ⟨_, rfl⟩
  obtain ⟨u, hu⟩ := HU.out
  have UU := Lib.hid hu
  rw [hu]
  have nu : ¬ (u : Int) < 0 := by omega
  clear hu HU
  obtain ⟨x0_0, x0_1, x0_2, x0_3, x0_4, x0_5, x0_6, x0_7, x0_8, x0_9, x0_10, x0_11⟩ := G12.out
  go_wp2_with fail
  refine (heldMsg_one h g1 n1 z1 g2 n2 z2 g3 n3 z3 rg1 rg2 rg3 _ M1_12.out M2_12.out M3_12.out (by omega)).mono ?_
  rintro e w13 ⟨rfl, hl⟩
  rw [UU.out]
  have L13 := Lib.hid (L12.out.trans (hl.mono L12.out.size))
  have V1_13 := Lib.hid (V1_12.out.below hl V1_12.out.lt)
  have V2_13 := Lib.hid (V2_12.out.below hl V2_12.out.lt)
  have V3_13 := Lib.hid (V3_12.out.below hl V3_12.out.lt)
  have W13 := Lib.hid (W12.out.below hl)
  have G13 := Lib.hid (G12.out.below hl)
  have M1_13 := Lib.hid (M1_12.out.below hl M1_12.out.lt)
  have M2_13 := Lib.hid (M2_12.out.below hl M2_12.out.lt)
  have M3_13 := Lib.hid (M3_12.out.below hl M3_12.out.lt)
  clear hl L12 V1_12 V2_12 V3_12 W12 G12 M1_12 M2_12 M3_12
  clear  x0_0 x0_1 x0_2 x0_3 x0_4 x0_5 x0_6 x0_7 x0_8 x0_9 x0_10 x0_11
  go_wp2_with fail
  refine (toByteS_any A n c l _ ((HS.out.below L13.out).wider L13.out.size) (by omega)).mono ?_
  rintro e w14 ⟨rfl, hb, hl⟩
  have eu : ∃ g, w13.heap.size = g := ⟨_, rfl⟩
  obtain ⟨u, hu⟩ := eu
  have gu : w13.heap.size ≤ u := by omega
  rw [hu] at hb ⊢
  have U_14 := Lib.hid hb
  have L14 := Lib.hid (L13.out.trans (hl.mono L13.out.size))
  have V1_14 := Lib.hid (V1_13.out.below hl V1_13.out.lt)
  have V2_14 := Lib.hid (V2_13.out.below hl V2_13.out.lt)
  have V3_14 := Lib.hid (V3_13.out.below hl V3_13.out.lt)
  have W14 := Lib.hid (W13.out.below hl)
  have G14 := Lib.hid (G13.out.below hl)
  have M1_14 := Lib.hid (M1_13.out.below hl M1_13.out.lt)
  have M2_14 := Lib.hid (M2_13.out.below hl M2_13.out.lt)
  have M3_14 := Lib.hid (M3_13.out.below hl M3_13.out.lt)
  clear hl L13 V1_13 V2_13 V3_13 W13 G13 M1_13 M2_13 M3_13
  clear hb hu gu 
  go_wp2_with fail
  refine (IM.out _ _ (HE.out.below L14.out) (HL.out ▸ (U_14.out.sl.wider U_14.out.lt))).mono ?_
  rintro e w15 ⟨o1, s1, ro1, o2, s2, ro2, o3, s3, ro3, rfl, hb1, hb2, hb3, hg, h12, h23, hl⟩
  have O1_15 := Lib.hid hb1
  have O2_15 := Lib.hid hb2
  have O3_15 := Lib.hid hb3
  have L15 := Lib.hid (L14.out.trans (hl.mono L14.out.size))
  have V1_15 := Lib.hid (V1_14.out.below hl V1_14.out.lt)
  have V2_15 := Lib.hid (V2_14.out.below hl V2_14.out.lt)
  have V3_15 := Lib.hid (V3_14.out.below hl V3_14.out.lt)
  have W15 := Lib.hid (W14.out.below hl)
  have G15 := Lib.hid (G14.out.below hl)
  have M1_15 := Lib.hid (M1_14.out.below hl M1_14.out.lt)
  have M2_15 := Lib.hid (M2_14.out.below hl M2_14.out.lt)
  have M3_15 := Lib.hid (M3_14.out.below hl M3_14.out.lt)
  clear hl L14 V1_14 V2_14 V3_14 W14 G14 M1_14 M2_14 M3_14 U_14
  clear hb1 hb2 hb3 hg h12 h23 
  have al : Below w15.heap.size w15 (w15.alloc (.cells #[.int .i64 h.id, .bool h.rp, .bool h.au, .bool h.ct, .bool h.wa, .bool h.ca, .int .i64 h.code, .string h.qn, .int .i64 h.qt, .slice (some ⟨o1, 0, none⟩) n1 s1, .slice (some ⟨o2, 0, none⟩) n2 s2, .slice (some ⟨o3, 0, none⟩) n3 s3] 28)) := (Below.refl _ _).alloc (Nat.le_refl _) _
  have K16 := Lib.hid (mx_new w15 28 h (.slice (some ⟨o1, 0, none⟩) n1 s1) (.slice (some ⟨o2, 0, none⟩) n2 s2) (.slice (some ⟨o3, 0, none⟩) n3 s3))
  have L16 := Lib.hid (L15.out.trans (al.mono L15.out.size))
  have V1_16 := Lib.hid (V1_15.out.below al V1_15.out.lt)
  have V2_16 := Lib.hid (V2_15.out.below al V2_15.out.lt)
  have V3_16 := Lib.hid (V3_15.out.below al V3_15.out.lt)
  have W16 := Lib.hid (W15.out.below al)
  have G16 := Lib.hid (G15.out.below al)
  have M1_16 := Lib.hid (M1_15.out.below al M1_15.out.lt)
  have M2_16 := Lib.hid (M2_15.out.below al M2_15.out.lt)
  have M3_16 := Lib.hid (M3_15.out.below al M3_15.out.lt)
  have O1_16 := Lib.hid (O1_15.out.below al O1_15.out.lt)
  have O2_16 := Lib.hid (O2_15.out.below al O2_15.out.lt)
  have O3_16 := Lib.hid (O3_15.out.below al O3_15.out.lt)
  clear al L15 V1_15 V2_15 V3_15 W15 G15 M1_15 M2_15 M3_15 O1_15 O2_15 O3_15
  obtain ⟨x0_0, x0_1, x0_2, x0_3, x0_4, x0_5, x0_6, x0_7, x0_8, x0_9, x0_10, x0_11⟩ := K16.out
  obtain ⟨x1_0, x1_1, x1_2, x1_3, x1_4, x1_5, x1_6, x1_7, x1_8, x1_9, x1_10, x1_11⟩ := W16.out
  go_wp2_with fail
  refine (eqMsg_same h _ _ n1 s1 f1 l1 _ _ n2 s2 f2 l2 _ _ n3 s3 f3 l3 _ (bk_sr O1_16.out B1.out) (bk_sr V1_16.out B1.out) (by omega) (bk_sr O2_16.out B2.out) (bk_sr V2_16.out B2.out) (by omega) (bk_sr O3_16.out B3.out) (bk_sr V3_16.out B3.out) (by omega)).mono ?_
  rintro e w17 ⟨rfl, hl⟩
  have L17 := Lib.hid (L16.out.trans (hl.mono L16.out.size))
  have G17 := Lib.hid (G16.out.below hl)
  have M1_17 := Lib.hid (M1_16.out.below hl M1_16.out.lt)
  have M2_17 := Lib.hid (M2_16.out.below hl M2_16.out.lt)
  have M3_17 := Lib.hid (M3_16.out.below hl M3_16.out.lt)
  clear hl L16 V1_16 V2_16 V3_16 W16 G16 M1_16 M2_16 M3_16 O1_16 O2_16 O3_16 K16
  clear  x0_0 x0_1 x0_2 x0_3 x0_4 x0_5 x0_6 x0_7 x0_8 x0_9 x0_10 x0_11 x1_0 x1_1 x1_2 x1_3 x1_4 x1_5 x1_6 x1_7 x1_8 x1_9 x1_10 x1_11
  obtain ⟨x0_0, x0_1, x0_2, x0_3, x0_4, x0_5, x0_6, x0_7, x0_8, x0_9, x0_10, x0_11⟩ := G17.out
  go_wp2_with fail
  refine (heldMsg_one h g1 n1 z1 g2 n2 z2 g3 n3 z3 rg1 rg2 rg3 _ M1_17.out M2_17.out M3_17.out (by omega)).mono ?_
  rintro e w18 ⟨rfl, hl⟩
  rw [UU.out]
  have L18 := Lib.hid (L17.out.trans (hl.mono L17.out.size))
  clear hl L17 G17 M1_17 M2_17 M3_17
  clear  x0_0 x0_1 x0_2 x0_3 x0_4 x0_5 x0_6 x0_7 x0_8 x0_9 x0_10 x0_11
  go_wp2
  go_ret
  exact ⟨rfl, L18.out⟩
end Go.Proofs.YtkfibepejlgniaaGreatDoor.GetMsgGood

/- The law FnExactGetMsg returns true on every slice that reads as bytes, where the library's variable internal/bytealg.MaxLen holds an int, and turns nothing that was there: GetMsg answers as its model. -/
namespace Go.Proofs.YtkfibepejlgniaaGreatDoor.LawGetMsg
open Go.RowKit Go.Proofs.YtkfibepejlgniaaGreatDoor.Mem Go.Proofs.YtkfibepejlgniaaGreatDoor.Labels Go.Proofs.YtkfibepejlgniaaGreatDoor.MsgMath

theorem walk (A : Option Addr) (n c : Nat) (l : List UInt8) (w : World) (he : Env w) (hs : Sl w w.heap.size A n l) (hc : n ≤ c) (hnil : A = none → n = 0 ∧ c = 0) :
    Calls Tryz.prog 7 #[.slice A n c] w fun e w' => e = .returned (.bool true) ∧ Below w.heap.size w w' := by
  by_cases hbig : 1048576 < n
  · have hb' : (1048576 : Int) < (n : Int) := by omega
    go_enter Tryz.func7, Tryz.ntmps7
    go_wp2
    go_ret
    exact ⟨rfl, Below.refl _ _⟩
  · cases hg : gmb l
    · exact GetMsgBad.walk A n c l w he hs hc hnil hg hbig
    · exact GetMsgGood.walk A n c l w he hs hc hnil hg hbig
end Go.Proofs.YtkfibepejlgniaaGreatDoor.LawGetMsg

/- What the world's shape gives the walks of this seat, and one world in which the listed tables of unicode/utf8 read as their text lays them. -/
namespace Go.Proofs.YtkfibepejlgniaaGreatDoor.LaidU
open Go.RowKit Go.Proofs.YtkfibepejlgniaaGreatDoor.Labels

theorem env {W : World} (h : W.ShapedOpen Tryz.prog) : Env W := Tryz.laysM146.s1_3 W h

def acc : List Int := [128, 191, 160, 191, 128, 159, 144, 191, 128, 143, 0, 0, 0, 0, 0, 0, 0, 0, 0, 0, 0, 0, 0, 0, 0, 0, 0, 0, 0, 0, 0, 0]
theorem gFirst : Tryz.prog.globalNamed "unicode/utf8.first" = some 4 := by kernel_rfl
theorem gAcc : Tryz.prog.globalNamed "unicode/utf8.acceptRanges" = some 5 := by kernel_rfl
/-- A block of cells, with other cells in it. -/
def put (cs : Array Value) : Obj → Obj
  | .cells _ t frozen => .cells cs t frozen
  | o => o
/-- The settled world, the two tables holding what their text lays. -/
noncomputable def laidWorld (os : Os) : World :=
  { World.holding Tryz.prog os ⟨#[], #[], []⟩ with heap := ((World.holding Tryz.prog os ⟨#[], #[], []⟩).heap.modify 4 (put (Go.Pinned.utf8FirstZ.map (fun n : Nat => Value.int .u8 (n : Int))).toArray)).modify 5 (put (acc.map (Value.int .u8)).toArray) }
def two : List (String × DataW Unit) := [("unicode/utf8.acceptRanges", Rows.laid_unicode_utf8_acceptRanges), ("unicode/utf8.first", Rows.laid_unicode_utf8_first)]
theorem laid_met (os : Os) (args : Array Value) : laidMet Tryz.prog two ((laidWorld os).forCall (fun _ _ => 0) ⟨#[], args, []⟩).memory :=
  laidMet_of_run' 8 (by kernel_rfl) (by kernel_rfl)
end Go.Proofs.YtkfibepejlgniaaGreatDoor.LaidU

/- GetMsg answers as its model at every slice of bytes. -/
namespace Go.Proofs.YtkfibepejlgniaaGreatDoor.exactGetMsgCard
open Go.ChangeShapes Go.WideShapes Go.ChangeAt Go.RowKit Go.Proofs.YtkfibepejlgniaaGreatDoor.LaidU Go.Proofs.YtkfibepejlgniaaGreatDoor.Mem

theorem own : ownKnob Tryz.prog.godebug = none := by kernel_rfl
theorem laidOut : laidOutB Tryz.prog = true := by kernel_rfl

set_option maxRecDepth 100000 in
theorem contract (H : Type) (enc : TypeId × Value → H) (W : World) (base : Nat) (args : Array Value) (ds gs : List (DataW H)) (before : List MemPlace)
    (hval0 : ∀ (j : Nat) t v, Tryz.f7.params[j]? = some t → args[j]? = some v → Value.okWide Tryz.prog W .any base t v)
    (hW : DataW.Whole enc Tryz.prog Tryz.f7.params.toList Rows.fnExactGetMsgSpec.vars false W args.toList ds gs before) (hsh : W.ShapedOpen Tryz.prog) :
    Calls Tryz.prog 7 args W fun e W' => ∃ v, e = .returned v ∧ Rows.fnExactGetMsgSpec.post enc Tryz.prog Tryz.f7 false true false false W args v W' := by
  have hval : ∀ (j : Nat) t v, Tryz.f7.params[j]? = some t → args[j]? = some v → Value.okWide Tryz.prog W .any base t v := hval0
  have hW' := hW
  obtain ⟨p, q, hA0, hV, rfl, _, _⟩ := hW
  have hA : DataW.TrodAll enc Tryz.prog W 0 (fun _ => true) true Tryz.f7.params.toList args.toList ds p := hA0
  rw [Tryz.params7] at hA hval
  obtain ⟨v0, vs0, d0, ds0, p0, q0, _, rfl, rfl, h0, r0⟩ := trodAll_cons hA
  obtain ⟨rfl, rfl, rfl⟩ := trodAll_nil r0
  obtain rfl : args = #[v0] := by cases args; simp_all
  obtain ⟨rfl, rfl⟩ := trodVars_none hV
  obtain ⟨a0, len0, cap0, rfl⟩ := okWide_slice Tryz.underlying22 (hval 0 22 v0 rfl rfl)
  have k0 := h0
  have lt0 : ∀ x ∈ p0, x.block < W.heap.size := by obtain ⟨m, hm⟩ := k0; exact DataW.trod_lt m _ _ _ hm
  obtain ⟨l0, s0, c0, z0⟩ : ∃ l : List UInt8, Sl W W.heap.size a0 len0 l ∧ len0 ≤ cap0 ∧ (a0 = none → len0 = 0 ∧ cap0 = 0) := by
    obtain ⟨fuel, hf⟩ := h0
    rcases open_ints Tryz.underlying22 Tryz.underlying5 (by kernel_rfl) hf with ⟨hcs, _⟩ | ⟨x, l, c, zs, hcs, _, hl, hm, hz, _, hcell, hwz⟩
    · simp [Value.cells] at hcs
      obtain ⟨rfl, rfl, rfl⟩ := hcs
      exact sl_of_row (zs := []) (.inl ⟨rfl, rfl, rfl, rfl⟩)
    · simp [Value.cells] at hcs
      obtain ⟨rfl, rfl, rfl⟩ := hcs
      exact sl_of_row (zs := zs) (.inr ⟨_, rfl, hl, hm, by simpa using hz, hcell, hwz⟩)
  clear hA0 hval0
  refine (LawGetMsg.walk a0 len0 cap0 l0 W (env hsh) s0 c0 z0).mono fun e W' ⟨he, bel⟩ => ?_
  subst he
  exact ⟨_, rfl, _, _, _, [], _, [], hW', trodAll_mk1 (shut_bool Tryz.underlying4 _), (trodAll_cons_mk (Below.trod laidOut (by kernel_rfl) (of_decide_eq_true (by kernel_rfl)) k0 bel lt0) trodAll_mk0), rfl, bel.frame _, fun h => by cases h⟩

theorem reads (os : Os) {H : Type} (enc : TypeId × Value → H) : ∃ places, DataW.whole enc Tryz.prog ((laidWorld os).forCall (fun _ _ => 0) ⟨#[], #[.slice none 0 0], []⟩).memory Tryz.f7.params.toList Rows.fnExactGetMsgSpec.vars false #[Value.slice none 0 0].toList 8 = some ([.nil], [], places) :=
  ⟨[], by kernel_rfl⟩

set_option maxRecDepth 100000 in
theorem lifted (os : Os) (started : os.Started) (H : Type) (enc : TypeId × Value → H) (F : Stop.Interp) :
    ReturnsInHanded {} Tryz.checked os 7 .any ((OpenSpec.ofChange Rows.fnExactGetMsgSpec).preRow enc Tryz.prog Tryz.f7 Rows.fnExactGetMsgRow.domain false Rows.fnExactGetMsgRow.laid) (((OpenSpec.ofChange Rows.fnExactGetMsgSpec).at F).post enc Tryz.prog Tryz.f7 false true false false) := by
  obtain ⟨places, hx⟩ := reads os enc
  refine returnsInHanded_of_row (C := Tryz.checked) (s := OpenSpec.ofChange Rows.fnExactGetMsgSpec) own started (by kernel_rfl) Tryz.func7
    (witness_row_at (enc := enc) (C := Tryz.checked) false (laidWorld os) #[.slice none 0 0] rfl (by kernel_rfl) (by kernel_rfl) (by kernel_rfl)
      (OpenSpec.preRow_of_cond 8 hx (by kernel_rfl) (fun k hk => by cases hk) (by kernel_rfl) (laid_met os _))) ?_
  intro W base args ds gs before hval hW _ _ _ _ hsh _
  exact contract H enc W base args ds gs before hval hW hsh

theorem said : Rows.FnExactGetMsgSaid :=
  OpenClaim.holds_of_cond 7 Tryz.f7 rfl rfl rfl rfl rfl rfl rfl ⟨rfl, rfl, rfl, rfl, rfl⟩ rfl rfl rfl rfl rfl (by kernel_rfl) Tryz.func7 (by kernel_rfl)
    (of_decide_eq_true (by kernel_rfl)) (by unfold Func.isWrapper; first | (rw [if_pos (by decide +kernel)]; kernel_rfl) | (rw [if_neg (by decide +kernel)]; exact ⟨rfl, rfl⟩))
    (fun os started H enc _ F => by rw [OpenClaim.pre_eq_preRow]; exact lifted os started H enc F)

theorem plain (f : FuncId) (fn : Func) (hf : Tryz.pinned.checked.prog.funcNamed "loop.example/g00497/laws.FnExactGetMsg" = some f) (hfn : Tryz.pinned.checked.prog.funcs[f]? = some fn) :
    true = Tryz.pinned.checked.prog.looks [] ∧ ∀ (j : Nat) t, fn.params[j]? = some t → Tryz.pinned.checked.prog.wantsStandIn t = false := by
  obtain rfl : f = 7 := Option.some.inj ((show Tryz.prog.funcNamed "loop.example/g00497/laws.FnExactGetMsg" = some 7 by kernel_rfl).symm.trans hf) |>.symm
  obtain rfl : fn = Tryz.f7 := (Option.some.inj (Tryz.func7.symm.trans hfn)).symm
  refine ⟨by kernel_rfl, fun j t ht => ?_⟩
  rw [Tryz.params7] at ht
  obtain rfl : t = 22 := by simpa using Array.mem_of_getElem? ht
  exact (show Tryz.prog.wantsStandIn 22 = false by kernel_rfl)

theorem card : Rows.FnExactGetMsgCardSaid :=
  Claim7.holds_tied_plain_at .later [] _ _ _ _ said (fun _ h => by cases h) (by kernel_rfl) (fun _ h => by cases h) fnExactGetMsg_row_tie rfl ⟨rfl, rfl⟩ (by kernel_rfl) rfl plain (by kernel_rfl)
end Go.Proofs.YtkfibepejlgniaaGreatDoor.exactGetMsgCard
namespace Go.Proofs.YtkfibepejlgniaaGreatDoor
theorem fnExactGetMsg_holds : Rows.FnExactGetMsgCardSaid := exactGetMsgCard.card
end Go.Proofs.YtkfibepejlgniaaGreatDoor
