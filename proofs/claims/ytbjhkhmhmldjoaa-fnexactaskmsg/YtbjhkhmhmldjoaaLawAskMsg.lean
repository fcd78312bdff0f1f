/- The law FnExactAskMsg returns true at every number and question, and turns nothing that was there: AskMsg answers as its model. -/
import Derived.Test.YtbjhkhmhmldjoaaAskM
import Derived.Test.YtbjhkhmhmldjoaaSzM
import Derived.Test.YtbjhkhmhmldjoaaToM
import Derived.Test.YtbjhkhmhmldjoaaEqM
import Derived.Test.YtbjhkhmhmldjoaaMarkM
namespace Go.Proofs.Ytbjhkhmhmldjoaa.LawAskMsg
open Go.RowKit Go.Proofs.Ytbjhkhmhmldjoaa.Mem Go.Proofs.Ytbjhkhmhmldjoaa.MemR Go.Proofs.Ytbjhkhmhmldjoaa.MemM Go.Proofs.Ytbjhkhmhmldjoaa.SzM Go.Proofs.Ytbjhkhmhmldjoaa.ToM Go.Proofs.Ytbjhkhmhmldjoaa.EqM Go.Proofs.Ytbjhkhmhmldjoaa.MarkM Go.Proofs.Ytbjhkhmhmldjoaa.AskM

set_option maxRecDepth 100000 in
set_option maxHeartbeats 8000000 in
theorem walk (id : Int) (s : ByteArray) (n : Int) (w : World) (hz : s.size ≤ 9223372036854775807) :
    Calls Try.prog 4 #[.int .i64 id, .agg #[.string s, .int .i64 n]] w fun e w' => e = .returned (.bool true) ∧ Below w.heap.size w w' := by
  have L0 := Lib.hid ((Below.refl w.heap.size w).alloc (Nat.le_refl _) (.cells #[.string s, .int .i64 n] 23))
  have X0 := Lib.hid (qx_new w 23 s n)
  go_enter Try.func4, Try.ntmps4
  go_wp2_with fail
  refine (szQuest_any s n 1048576 _ (by omega) (by omega) hz).mono ?_
  rintro e w1 ⟨y, rfl, hy0, hy1, -, hl⟩
  have L1 := Lib.hid (L0.out.trans (hl.mono L0.out.size))
  have X1 := Lib.hid (X0.out.below hl)
  clear hl L0 X0
  by_cases negy : y < 0
  · go_wp2
    go_ret
    exact ⟨rfl, L1.out⟩
  obtain ⟨z0, z1⟩ := X1.out
  go_wp2_with fail
  refine (toQuest_any s n _).mono ?_
  rintro e w2 ⟨rfl, hl⟩
  have L2 := Lib.hid (L1.out.trans (hl.mono L1.out.size))
  have X2 := Lib.hid (X1.out.below hl)
  clear hl L1 X1
  clear z0 z1 
  go_wp2_with fail
  refine (AskM.spec id s n _).mono ?_
  rintro e w3 ⟨rfl, hl⟩
  have L3 := Lib.hid (L2.out.trans (hl.mono L2.out.size))
  have X3 := Lib.hid (X2.out.below hl)
  clear hl L2 X2
  have al : Below w3.heap.size w3 (w3.alloc (.cells #[.int .i64 (askh id s n).id, .bool (askh id s n).rp, .bool (askh id s n).au, .bool (askh id s n).ct, .bool (askh id s n).wa, .bool (askh id s n).ca, .int .i64 (askh id s n).code, .string (askh id s n).qn, .int .i64 (askh id s n).qt, .slice none 0 0, .slice none 0 0, .slice none 0 0] 32)) := (Below.refl _ _).alloc (Nat.le_refl _) _
  have W4 := Lib.hid (mx_new w3 32 (askh id s n) (.slice none 0 0) (.slice none 0 0) (.slice none 0 0))
  have L4 := Lib.hid (L3.out.trans (al.mono L3.out.size))
  have X4 := Lib.hid (X3.out.below al)
  clear al L3 X3
  obtain ⟨z0, z1⟩ := X4.out
  go_wp2_with fail
  refine (toQuest_any s n _).mono ?_
  rintro e w5 ⟨rfl, hl⟩
  have L5 := Lib.hid (L4.out.trans (hl.mono L4.out.size))
  have X5 := Lib.hid (X4.out.below hl)
  have W5 := Lib.hid (W4.out.below hl)
  clear hl L4 X4 W4
  clear z0 z1 
  go_wp2_with fail
  refine (AskM.impl id s n _).mono ?_
  rintro e w6 ⟨rfl, hl⟩
  have L6 := Lib.hid (L5.out.trans (hl.mono L5.out.size))
  have X6 := Lib.hid (X5.out.below hl)
  have W6 := Lib.hid (W5.out.below hl)
  clear hl L5 X5 W5
  have al : Below w6.heap.size w6 (w6.alloc (.cells #[.int .i64 (askh id s n).id, .bool (askh id s n).rp, .bool (askh id s n).au, .bool (askh id s n).ct, .bool (askh id s n).wa, .bool (askh id s n).ca, .int .i64 (askh id s n).code, .string (askh id s n).qn, .int .i64 (askh id s n).qt, .slice none 0 0, .slice none 0 0, .slice none 0 0] 32)) := (Below.refl _ _).alloc (Nat.le_refl _) _
  have G7 := Lib.hid (mx_new w6 32 (askh id s n) (.slice none 0 0) (.slice none 0 0) (.slice none 0 0))
  have L7 := Lib.hid (L6.out.trans (al.mono L6.out.size))
  have X7 := Lib.hid (X6.out.below al)
  have W7 := Lib.hid (W6.out.below al)
  clear al L6 X6 W6
  obtain ⟨x0_0, x0_1, x0_2, x0_3, x0_4, x0_5, x0_6, x0_7, x0_8, x0_9, x0_10, x0_11⟩ := G7.out
  obtain ⟨x1_0, x1_1, x1_2, x1_3, x1_4, x1_5, x1_6, x1_7, x1_8, x1_9, x1_10, x1_11⟩ := W7.out
  go_wp2_with fail
  refine (eqMsg_same (askh id s n) none none 0 0 0 [] none none 0 0 0 [] none none 0 0 0 [] _ Sr.nil Sr.nil (by omega) Sr.nil Sr.nil (by omega) Sr.nil Sr.nil (by omega)).mono ?_
  rintro e w8 ⟨rfl, hl⟩
  have L8 := Lib.hid (L7.out.trans (hl.mono L7.out.size))
  have X8 := Lib.hid (X7.out.below hl)
  have W8 := Lib.hid (W7.out.below hl)
  have G8 := Lib.hid (G7.out.below hl)
  clear hl L7 X7 W7 G7
  clear  x0_0 x0_1 x0_2 x0_3 x0_4 x0_5 x0_6 x0_7 x0_8 x0_9 x0_10 x0_11 x1_0 x1_1 x1_2 x1_3 x1_4 x1_5 x1_6 x1_7 x1_8 x1_9 x1_10 x1_11
  obtain ⟨x0_0, x0_1, x0_2, x0_3, x0_4, x0_5, x0_6, x0_7, x0_8, x0_9, x0_10, x0_11⟩ := G8.out
  go_wp2_with fail
  refine (markMsg_none (askh id s n) 1 _).mono ?_
  rintro e w9 ⟨rfl, hl⟩
  have L9 := Lib.hid (L8.out.trans (hl.mono L8.out.size))
  have X9 := Lib.hid (X8.out.below hl)
  have W9 := Lib.hid (W8.out.below hl)
  have G9 := Lib.hid (G8.out.below hl)
  clear hl L8 X8 W8 G8
  clear  x0_0 x0_1 x0_2 x0_3 x0_4 x0_5 x0_6 x0_7 x0_8 x0_9 x0_10 x0_11
  obtain ⟨x0_0, x0_1, x0_2, x0_3, x0_4, x0_5, x0_6, x0_7, x0_8, x0_9, x0_10, x0_11⟩ := G9.out
  go_wp2_with fail
  refine (heldMsg_none (askh id s n) 1 _ (by omega)).mono ?_
  rintro e w10 ⟨rfl, hl⟩
  have L10 := Lib.hid (L9.out.trans (hl.mono L9.out.size))
  have X10 := Lib.hid (X9.out.below hl)
  have W10 := Lib.hid (W9.out.below hl)
  have G10 := Lib.hid (G9.out.below hl)
  clear hl L9 X9 W9 G9
  clear  x0_0 x0_1 x0_2 x0_3 x0_4 x0_5 x0_6 x0_7 x0_8 x0_9 x0_10 x0_11
  obtain ⟨z0, z1⟩ := X10.out
  go_wp2_with fail
  refine (toQuest_any s n _).mono ?_
  rintro e w11 ⟨rfl, hl⟩
  have L11 := Lib.hid (L10.out.trans (hl.mono L10.out.size))
  have X11 := Lib.hid (X10.out.below hl)
  have W11 := Lib.hid (W10.out.below hl)
  have G11 := Lib.hid (G10.out.below hl)
  clear hl L10 X10 W10 G10
  clear z0 z1 
  go_wp2_with fail
  refine (AskM.impl id s n _).mono ?_
  rintro e w12 ⟨rfl, hl⟩
  have L12 := Lib.hid (L11.out.trans (hl.mono L11.out.size))
  have X12 := Lib.hid (X11.out.below hl)
  have W12 := Lib.hid (W11.out.below hl)
  have G12 := Lib.hid (G11.out.below hl)
  clear hl L11 X11 W11 G11
  have al : Below w12.heap.size w12 (w12.alloc (.cells #[.int .i64 (askh id s n).id, .bool (askh id s n).rp, .bool (askh id s n).au, .bool (askh id s n).ct, .bool (askh id s n).wa, .bool (askh id s n).ca, .int .i64 (askh id s n).code, .string (askh id s n).qn, .int .i64 (askh id s n).qt, .slice none 0 0, .slice none 0 0, .slice none 0 0] 32)) := (Below.refl _ _).alloc (Nat.le_refl _) _
  have K13 := Lib.hid (mx_new w12 32 (askh id s n) (.slice none 0 0) (.slice none 0 0) (.slice none 0 0))
  have L13 := Lib.hid (L12.out.trans (al.mono L12.out.size))
  have X13 := Lib.hid (X12.out.below al)
  have W13 := Lib.hid (W12.out.below al)
  have G13 := Lib.hid (G12.out.below al)
  clear al L12 X12 W12 G12
  obtain ⟨x0_0, x0_1, x0_2, x0_3, x0_4, x0_5, x0_6, x0_7, x0_8, x0_9, x0_10, x0_11⟩ := K13.out
  obtain ⟨x1_0, x1_1, x1_2, x1_3, x1_4, x1_5, x1_6, x1_7, x1_8, x1_9, x1_10, x1_11⟩ := W13.out
  go_wp2_with fail
  refine (eqMsg_same (askh id s n) none none 0 0 0 [] none none 0 0 0 [] none none 0 0 0 [] _ Sr.nil Sr.nil (by omega) Sr.nil Sr.nil (by omega) Sr.nil Sr.nil (by omega)).mono ?_
  rintro e w14 ⟨rfl, hl⟩
  have L14 := Lib.hid (L13.out.trans (hl.mono L13.out.size))
  have G14 := Lib.hid (G13.out.below hl)
  clear hl L13 X13 W13 G13 K13
  clear  x0_0 x0_1 x0_2 x0_3 x0_4 x0_5 x0_6 x0_7 x0_8 x0_9 x0_10 x0_11 x1_0 x1_1 x1_2 x1_3 x1_4 x1_5 x1_6 x1_7 x1_8 x1_9 x1_10 x1_11
  obtain ⟨x0_0, x0_1, x0_2, x0_3, x0_4, x0_5, x0_6, x0_7, x0_8, x0_9, x0_10, x0_11⟩ := G14.out
  go_wp2_with fail
  refine (heldMsg_none (askh id s n) 1 _ (by omega)).mono ?_
  rintro e w15 ⟨rfl, hl⟩
  have L15 := Lib.hid (L14.out.trans (hl.mono L14.out.size))
  clear hl L14 G14
  clear  x0_0 x0_1 x0_2 x0_3 x0_4 x0_5 x0_6 x0_7 x0_8 x0_9 x0_10 x0_11
  go_wp2
  go_ret
  exact ⟨rfl, L15.out⟩
end Go.Proofs.Ytbjhkhmhmldjoaa.LawAskMsg
