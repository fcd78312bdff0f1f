/- The law FnExactGetHead returns true on every slice that reads as bytes, and turns nothing that was there: GetHead answers as its model. -/
import Derived.Test.YtkfibepejlgniaaGetHS
import Derived.Test.YtkfibepejlgniaaCopy
import Derived.Test.YtkfibepejlgniaaEq
import Derived.Test.YtkfibepejlgniaaEqM
import Derived.Test.YtkfibepejlgniaaMarkM
import Derived.Test.YtkfibepejlgniaaRowM
import Derived.Deep.RegionHeld3
namespace Go.Proofs.Ytkfibepejlgniaa.LawGetHead
open Go.RowKit Go.Proofs.Ytkfibepejlgniaa.Mem Go.Proofs.Ytkfibepejlgniaa.MemR Go.Proofs.Ytkfibepejlgniaa.Copy Go.Proofs.Ytkfibepejlgniaa.Eq Go.Proofs.Ytkfibepejlgniaa.BoxR Go.Proofs.Ytkfibepejlgniaa.MemM Go.Proofs.Ytkfibepejlgniaa.ResM Go.Proofs.Ytkfibepejlgniaa.EqM Go.Proofs.Ytkfibepejlgniaa.MarkR3 Go.Proofs.Ytkfibepejlgniaa.MarkM Go.Proofs.Ytkfibepejlgniaa.HeadRd Go.Proofs.Ytkfibepejlgniaa.GetH Go.Proofs.Ytkfibepejlgniaa.GetHI

set_option maxRecDepth 100000 in
set_option maxHeartbeats 16000000 in
theorem walk (A : Option Addr) (n c : Nat) (l : List UInt8) (w : World) (hs : Sl w w.heap.size A n l) (_hc : n ≤ c) (_hnil : A = none → n = 0 ∧ c = 0) :
    Calls Try.prog 4 #[.slice A n c] w fun e w' => e = .returned (.bool true) ∧ Below w.heap.size w w' := by
  by_cases hbig : 1048576 < n
  · have hb' : (1048576 : Int) < (n : Int) := by omega
    go_enter Try.func4, Try.ntmps4
    go_wp2
    go_ret
    exact ⟨rfl, Below.refl _ _⟩
  have hb' : ¬ (1048576 : Int) < (n : Int) := by omega
  have SP := Lib.hid (fun A w hs => GetHS.spec A n n l w hs (Nat.le_refl _) (by omega))
  have IM := Lib.hid (fun A w hs => GetHI.impl A n n l w hs (Nat.le_refl _) (by omega))
  unfold valH at SP IM
  generalize ghh l = h at *
  generalize ghn l 6 = r1 at *
  generalize ghn l 8 = r2 at *
  generalize ghn l 10 = r3 at *
  generalize ghb l = b at *
  have z1 : (r1 != r1) = false := by simp
  have z2 : (r2 != r2) = false := by simp
  have z3 : (r3 != r3) = false := by simp
  have z4 : (b != b) = false := by cases b <;> rfl
  have HS := Lib.hid hs
  have HL := Lib.hid hs.1
  have L0 := Lib.hid (Below.refl w.heap.size w)
  clear hs
  go_enter Try.func4, Try.ntmps4
  go_wp2_with fail
  refine (toByteS_any A n c l _ ((HS.out.below L0.out).wider L0.out.size) (by omega)).mono ?_
  rintro e w1 ⟨rfl, hb, hl⟩
  have et : ∃ g, w.heap.size = g := ⟨_, rfl⟩
  obtain ⟨t, ht⟩ := et
  have gt : w.heap.size ≤ t := by omega
  rw [ht] at hb ⊢
  have T_1 := Lib.hid hb
  have L1 := Lib.hid (L0.out.trans (hl.mono L0.out.size))
  clear hl L0
  clear hb ht gt 
  go_wp2_with fail
  refine (SP.out _ _ (HL.out ▸ (T_1.out.sl.wider T_1.out.lt))).mono ?_
  rintro e w2 ⟨rfl, hl⟩
  have L2 := Lib.hid (L1.out.trans (hl.mono L1.out.size))
  clear hl L1 T_1
  have al : Below w2.heap.size w2 (w2.alloc (.cells #[.int .i64 h.id, .bool h.rp, .bool h.au, .bool h.ct, .bool h.wa, .bool h.ca, .int .i64 h.code, .string h.qn, .int .i64 h.qt, .slice none 0 0, .slice none 0 0, .slice none 0 0] 33)) := (Below.refl _ _).alloc (Nat.le_refl _) _
  have W3 := Lib.hid (mx_new w2 33 h (.slice none 0 0) (.slice none 0 0) (.slice none 0 0))
  have L3 := Lib.hid (L2.out.trans (al.mono L2.out.size))
  clear al L2
  go_wp2_with fail
  refine (toByteS_any A n c l _ ((HS.out.below L3.out).wider L3.out.size) (by omega)).mono ?_
  rintro e w4 ⟨rfl, hb, hl⟩
  have ex : ∃ g, (w2.alloc (.cells #[.int .i64 h.id, .bool h.rp, .bool h.au, .bool h.ct, .bool h.wa, .bool h.ca, .int .i64 h.code, .string h.qn, .int .i64 h.qt, .slice none 0 0, .slice none 0 0, .slice none 0 0] 33)).heap.size = g := ⟨_, rfl⟩
  obtain ⟨x, hx⟩ := ex
  have gx : (w2.alloc (.cells #[.int .i64 h.id, .bool h.rp, .bool h.au, .bool h.ct, .bool h.wa, .bool h.ca, .int .i64 h.code, .string h.qn, .int .i64 h.qt, .slice none 0 0, .slice none 0 0, .slice none 0 0] 33)).heap.size ≤ x := by omega
  rw [hx] at hb ⊢
  have X_4 := Lib.hid hb
  have OX : Hid (w2.heap.size < x) := Nat.lt_of_lt_of_le W3.out.lt gx
  have GX : Hid (w.heap.size ≤ x) := Nat.le_trans L3.out.size gx
  have L4 := Lib.hid (L3.out.trans (hl.mono L3.out.size))
  have W4 := Lib.hid (W3.out.below hl)
  clear hl L3 W3
  clear hb hx gx 
  generalize w2.heap.size = gw at *
  go_wp2_with fail
  refine (IM.out _ _ (HL.out ▸ (X_4.out.sl.wider X_4.out.lt))).mono ?_
  rintro e w5 ⟨rfl, hl⟩
  have L5 := Lib.hid (L4.out.trans (hl.mono L4.out.size))
  have W5 := Lib.hid (W4.out.below hl)
  have X_5 := Lib.hid (X_4.out.below hl X_4.out.lt)
  clear hl L4 W4 X_4
  have OB : Hid (x < w5.heap.size) := X_5.out.lt
  have al : Below w5.heap.size w5 (w5.alloc (.cells #[.int .i64 h.id, .bool h.rp, .bool h.au, .bool h.ct, .bool h.wa, .bool h.ca, .int .i64 h.code, .string h.qn, .int .i64 h.qt, .slice none 0 0, .slice none 0 0, .slice none 0 0] 33)) := (Below.refl _ _).alloc (Nat.le_refl _) _
  have G6 := Lib.hid (mx_new w5 33 h (.slice none 0 0) (.slice none 0 0) (.slice none 0 0))
  have L6 := Lib.hid (L5.out.trans (al.mono L5.out.size))
  have W6 := Lib.hid (W5.out.below al)
  have X_6 := Lib.hid (X_5.out.below al X_5.out.lt)
  clear al L5 W5 X_5
  obtain ⟨x0_0, x0_1, x0_2, x0_3, x0_4, x0_5, x0_6, x0_7, x0_8, x0_9, x0_10, x0_11⟩ := G6.out
  obtain ⟨x1_0, x1_1, x1_2, x1_3, x1_4, x1_5, x1_6, x1_7, x1_8, x1_9, x1_10, x1_11⟩ := W6.out
  go_wp2_with fail
  refine (eqMsg_same h none none 0 0 0 [] none none 0 0 0 [] none none 0 0 0 [] _ Sr.nil Sr.nil (by omega) Sr.nil Sr.nil (by omega) Sr.nil Sr.nil (by omega)).mono ?_
  rintro e w7 ⟨rfl, hl⟩
  have L7 := Lib.hid (L6.out.trans (hl.mono L6.out.size))
  have W7 := Lib.hid (W6.out.below hl)
  have X_7 := Lib.hid (X_6.out.below hl X_6.out.lt)
  have G7 := Lib.hid (G6.out.below hl)
  clear hl L6 W6 X_6 G6
  clear  x0_0 x0_1 x0_2 x0_3 x0_4 x0_5 x0_6 x0_7 x0_8 x0_9 x0_10 x0_11 x1_0 x1_1 x1_2 x1_3 x1_4 x1_5 x1_6 x1_7 x1_8 x1_9 x1_10 x1_11
  generalize w5.heap.size = gg at *
  go_wp2_with fail
  refine (toByteS_any A n c l _ ((HS.out.below L7.out).wider L7.out.size) (by omega)).mono ?_
  rintro e w8 ⟨rfl, hb, hl⟩
  have ey : ∃ g, w7.heap.size = g := ⟨_, rfl⟩
  obtain ⟨y, hy⟩ := ey
  have gy : w7.heap.size ≤ y := by omega
  rw [hy] at hb ⊢
  have Y_8 := Lib.hid hb
  have L8 := Lib.hid (L7.out.trans (hl.mono L7.out.size))
  have W8 := Lib.hid (W7.out.below hl)
  have X_8 := Lib.hid (X_7.out.below hl X_7.out.lt)
  have G8 := Lib.hid (G7.out.below hl)
  clear hl L7 W7 X_7 G7
  clear hb hy gy 
  go_wp2_with fail
  refine (eqByteS_same _ _ n n n n l _ (HL.out ▸ (X_8.out.sl.wider X_8.out.lt)) (HL.out ▸ (Y_8.out.sl.wider Y_8.out.lt)) (by omega) (by omega)).mono ?_
  rintro e w9 ⟨rfl, hl⟩
  have L9 := Lib.hid (L8.out.trans (hl.mono L8.out.size))
  have W9 := Lib.hid (W8.out.below hl)
  have X_9 := Lib.hid (X_8.out.below hl X_8.out.lt)
  have G9 := Lib.hid (G8.out.below hl)
  clear hl L8 W8 X_8 G8 Y_8
  go_wp2_with fail
  refine (markByteS_one x n n l [] _ (by rw [List.append_nil]; exact X_9.out) HL.out (by omega)).mono ?_
  rintro e w10 ⟨rfl, -, ht⟩
  have L10 := Lib.hid (L9.out.grown ht L9.out.size (fun j hj => by cases hj; exact GX.out))
  have W10 := Lib.hid (W9.out.grown ht (fun e => by have := Option.some.inj e; have := OX.out; have := OB.out; omega))
  have G10 := Lib.hid (G9.out.grown ht (fun e => by have := Option.some.inj e; have := OX.out; have := OB.out; omega))
  clear ht L9 W9 X_9 G9  
  have np : ¬ (1 + (n : Int)) < 0 := by omega
  have np2 : decide ((1 + (n : Int)) < 0) = false := decide_eq_false np
  obtain ⟨x0_0, x0_1, x0_2, x0_3, x0_4, x0_5, x0_6, x0_7, x0_8, x0_9, x0_10, x0_11⟩ := G10.out
  obtain ⟨x1_0, x1_1, x1_2, x1_3, x1_4, x1_5, x1_6, x1_7, x1_8, x1_9, x1_10, x1_11⟩ := W10.out
  go_wp2_with fail
  refine (eqMsg_same h none none 0 0 0 [] none none 0 0 0 [] none none 0 0 0 [] _ Sr.nil Sr.nil (by omega) Sr.nil Sr.nil (by omega) Sr.nil Sr.nil (by omega)).mono ?_
  rintro e w11 ⟨rfl, hl⟩
  have L11 := Lib.hid (L10.out.trans (hl.mono L10.out.size))
  have W11 := Lib.hid (W10.out.below hl)
  have G11 := Lib.hid (G10.out.below hl)
  clear hl L10 W10 G10
  clear  x0_0 x0_1 x0_2 x0_3 x0_4 x0_5 x0_6 x0_7 x0_8 x0_9 x0_10 x0_11 x1_0 x1_1 x1_2 x1_3 x1_4 x1_5 x1_6 x1_7 x1_8 x1_9 x1_10 x1_11
  obtain ⟨x0_0, x0_1, x0_2, x0_3, x0_4, x0_5, x0_6, x0_7, x0_8, x0_9, x0_10, x0_11⟩ := G11.out
  go_wp2_with fail
  refine (markMsg_none h 1 _).mono ?_
  rintro e w12 ⟨rfl, hl⟩
  have L12 := Lib.hid (L11.out.trans (hl.mono L11.out.size))
  have W12 := Lib.hid (W11.out.below hl)
  have G12 := Lib.hid (G11.out.below hl)
  clear hl L11 W11 G11
  clear  x0_0 x0_1 x0_2 x0_3 x0_4 x0_5 x0_6 x0_7 x0_8 x0_9 x0_10 x0_11
  obtain ⟨x0_0, x0_1, x0_2, x0_3, x0_4, x0_5, x0_6, x0_7, x0_8, x0_9, x0_10, x0_11⟩ := G12.out
  go_wp2_with fail
  refine (heldMsg_none h 1 _ (by omega)).mono ?_
  rintro e w13 ⟨rfl, hl⟩
  have L13 := Lib.hid (L12.out.trans (hl.mono L12.out.size))
  have W13 := Lib.hid (W12.out.below hl)
  have G13 := Lib.hid (G12.out.below hl)
  clear hl L12 W12 G12
  clear  x0_0 x0_1 x0_2 x0_3 x0_4 x0_5 x0_6 x0_7 x0_8 x0_9 x0_10 x0_11
  go_wp2_with fail
  refine (toByteS_any A n c l _ ((HS.out.below L13.out).wider L13.out.size) (by omega)).mono ?_
  rintro e w14 ⟨rfl, hb, hl⟩
  have eu : ∃ g, w13.heap.size = g := ⟨_, rfl⟩
  obtain ⟨u, hu⟩ := eu
  have gu : w13.heap.size ≤ u := by omega
  rw [hu] at hb ⊢
  have U_14 := Lib.hid hb
  have L14 := Lib.hid (L13.out.trans (hl.mono L13.out.size))
  have W14 := Lib.hid (W13.out.below hl)
  have G14 := Lib.hid (G13.out.below hl)
  clear hl L13 W13 G13
  clear hb hu gu 
  go_wp2_with fail
  refine (IM.out _ _ (HL.out ▸ (U_14.out.sl.wider U_14.out.lt))).mono ?_
  rintro e w15 ⟨rfl, hl⟩
  have L15 := Lib.hid (L14.out.trans (hl.mono L14.out.size))
  have W15 := Lib.hid (W14.out.below hl)
  have G15 := Lib.hid (G14.out.below hl)
  clear hl L14 W14 G14 U_14
  have al : Below w15.heap.size w15 (w15.alloc (.cells #[.int .i64 h.id, .bool h.rp, .bool h.au, .bool h.ct, .bool h.wa, .bool h.ca, .int .i64 h.code, .string h.qn, .int .i64 h.qt, .slice none 0 0, .slice none 0 0, .slice none 0 0] 33)) := (Below.refl _ _).alloc (Nat.le_refl _) _
  have K16 := Lib.hid (mx_new w15 33 h (.slice none 0 0) (.slice none 0 0) (.slice none 0 0))
  have L16 := Lib.hid (L15.out.trans (al.mono L15.out.size))
  have W16 := Lib.hid (W15.out.below al)
  have G16 := Lib.hid (G15.out.below al)
  clear al L15 W15 G15
  obtain ⟨x0_0, x0_1, x0_2, x0_3, x0_4, x0_5, x0_6, x0_7, x0_8, x0_9, x0_10, x0_11⟩ := K16.out
  obtain ⟨x1_0, x1_1, x1_2, x1_3, x1_4, x1_5, x1_6, x1_7, x1_8, x1_9, x1_10, x1_11⟩ := W16.out
  go_wp2_with fail
  refine (eqMsg_same h none none 0 0 0 [] none none 0 0 0 [] none none 0 0 0 [] _ Sr.nil Sr.nil (by omega) Sr.nil Sr.nil (by omega) Sr.nil Sr.nil (by omega)).mono ?_
  rintro e w17 ⟨rfl, hl⟩
  have L17 := Lib.hid (L16.out.trans (hl.mono L16.out.size))
  have G17 := Lib.hid (G16.out.below hl)
  clear hl L16 W16 G16 K16
  clear  x0_0 x0_1 x0_2 x0_3 x0_4 x0_5 x0_6 x0_7 x0_8 x0_9 x0_10 x0_11 x1_0 x1_1 x1_2 x1_3 x1_4 x1_5 x1_6 x1_7 x1_8 x1_9 x1_10 x1_11
  obtain ⟨x0_0, x0_1, x0_2, x0_3, x0_4, x0_5, x0_6, x0_7, x0_8, x0_9, x0_10, x0_11⟩ := G17.out
  go_wp2_with fail
  refine (heldMsg_none h 1 _ (by omega)).mono ?_
  rintro e w18 ⟨rfl, hl⟩
  have L18 := Lib.hid (L17.out.trans (hl.mono L17.out.size))
  clear hl L17 G17
  clear  x0_0 x0_1 x0_2 x0_3 x0_4 x0_5 x0_6 x0_7 x0_8 x0_9 x0_10 x0_11
  go_wp2
  go_ret
  exact ⟨rfl, L18.out⟩
end Go.Proofs.Ytkfibepejlgniaa.LawGetHead
