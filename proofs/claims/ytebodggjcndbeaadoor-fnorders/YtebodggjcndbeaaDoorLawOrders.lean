/- The law FnOrders returns true on every slice that reads as bytes, where the library's variable internal/bytealg.MaxLen holds an int, and turns nothing that was there. -/
import Derived.Test.YtebodggjcndbeaaDoorSame
import Derived.Test.YtebodggjcndbeaaDoorLess
import Derived.Test.YtebodggjcndbeaaDoorUnderImpl
import Derived.Test.YtebodggjcndbeaaDoorDrawN
namespace Go.Proofs.YtebodggjcndbeaaDoor.LawOrders
open Go.RowKit Go.Proofs.YtebodggjcndbeaaDoor.Mem Go.Proofs.YtebodggjcndbeaaDoor.MemS Go.Proofs.YtebodggjcndbeaaDoor.Same Go.Proofs.YtebodggjcndbeaaDoor.Labels Go.Proofs.YtebodggjcndbeaaDoor.NameMath Go.Proofs.YtebodggjcndbeaaDoor.DrawL Go.Proofs.YtebodggjcndbeaaDoor.DrawN

set_option maxHeartbeats 8000000 in
set_option maxRecDepth 100000 in
theorem walk (A : Option Addr) (n c : Nat) (l : List UInt8) (w : World) (hs : Sl w w.heap.size A n l) (he : Env w) :
    Calls Tryd.prog 3 #[.slice A n c] w fun e w' => e = .returned (.bool true) ∧ Below w.heap.size w w' := by
  have HS := Lib.hid hs
  have HE := Lib.hid he
  clear hs he
  by_cases hn : n ≤ 1048576
  · go_enter Tryd.func3, Tryd.ntmps3
    go_wp2_with fail
    refine (big_no A n c w hn).mono ?_
    rintro e w0 ⟨rfl, rfl⟩
    go_wp2_with fail
    refine (drawLessName_any A n c l w HS.out hn).mono ?_
    rintro e w1 ⟨a, b, rfl, ha, hb, hl⟩
    have Ha : Hid (a.size ≤ 2000000) := Nat.le_trans ha (by decide)
    have Hb : Hid (b.size ≤ 2000000) := Nat.le_trans hb (by decide)
    have L1 := Lib.hid hl
    clear hl ha hb
    have IM := Lib.hid (fun (x y : ByteArray) w hx hy he => Less.impl x y w he hx hy)
    have SP := Lib.hid (fun w => Less.spec a b w Ha.out Hb.out)
    have UN := Lib.hid (fun w => UnderImpl.impl a b w Ha.out Hb.out)
    have FA := Lib.hid (ls_irr a)
    by_cases hab : a = b
    · subst hab
      have FU := Lib.hid (un_self a)
      have q1 : (a.toList == a.toList) = true := by simp
      have q2 : (a.data.toList == a.data.toList) = true := by simp
      go_wp2_with fail
      refine (IM.out a a w1 Ha.out Ha.out (HE.out.below L1.out)).mono ?_
      rw [FA.out]
      rintro e w2 ⟨rfl, hl⟩
      have L2 := Lib.hid (L1.out.trans (hl.mono L1.out.size))
      clear hl L1
      go_wp2_with fail
      refine (SP.out w2).mono ?_
      rw [FA.out]
      rintro e w3 ⟨rfl, hl⟩
      have L3 := Lib.hid (L2.out.trans (hl.mono L2.out.size))
      clear hl L2
      go_wp2_with fail
      refine (IM.out a a w3 Ha.out Ha.out (HE.out.below L3.out)).mono ?_
      rw [FA.out]
      rintro e w4 ⟨rfl, hl⟩
      have L4 := Lib.hid (L3.out.trans (hl.mono L3.out.size))
      clear hl L3
      go_wp2_with fail
      refine (IM.out a a w4 Ha.out Ha.out (HE.out.below L4.out)).mono ?_
      rw [FA.out]
      rintro e w5 ⟨rfl, hl⟩
      have L5 := Lib.hid (L4.out.trans (hl.mono L4.out.size))
      clear hl L4
      go_wp2_with fail
      refine (IM.out a a w5 Ha.out Ha.out (HE.out.below L5.out)).mono ?_
      rw [FA.out]
      rintro e w6 ⟨rfl, hl⟩
      have L6 := Lib.hid (L5.out.trans (hl.mono L5.out.size))
      clear hl L5
      go_wp2_with fail
      refine (IM.out a a w6 Ha.out Ha.out (HE.out.below L6.out)).mono ?_
      rw [FA.out]
      rintro e w7 ⟨rfl, hl⟩
      have L7 := Lib.hid (L6.out.trans (hl.mono L6.out.size))
      clear hl L6
      go_wp2_with fail
      refine (UN.out w7).mono ?_
      rw [FU.out]
      rintro e wu ⟨rfl, rfl⟩
      go_wp2
      go_ret
      exact ⟨rfl, L7.out⟩
    · have q1 : (a.toList == b.toList) = false := by
        rw [beq_eq_false_iff_ne, ByteArray.toList_eq, ByteArray.toList_eq]
        exact fun e => hab (text_ext e)
      have q2 : (a.data.toList == b.data.toList) = false := by
        rw [beq_eq_false_iff_ne]
        exact fun e => hab (text_ext e)
      have HAB := Lib.hid hab
      clear hab
      cases hl : Ls a b with
      | true =>
        have FL := Lib.hid hl
        have FG := Lib.hid (ls_asym hl)
        have FU : Hid (Un a b = false) := by
          show _ = _
          cases e : Un a b with
          | false => rfl
          | true => have := ls_under e HAB.out; rw [FG.out] at this; cases this
        clear hl
        go_wp2_with fail
        refine (IM.out a b w1 Ha.out Hb.out (HE.out.below L1.out)).mono ?_
        rw [FL.out]
        rintro e w2 ⟨rfl, hl⟩
        have L2 := Lib.hid (L1.out.trans (hl.mono L1.out.size))
        clear hl L1
        go_wp2_with fail
        refine (SP.out w2).mono ?_
        rw [FL.out]
        rintro e w3 ⟨rfl, hl⟩
        have L3 := Lib.hid (L2.out.trans (hl.mono L2.out.size))
        clear hl L2
        go_wp2_with fail
        refine (IM.out a a w3 Ha.out Ha.out (HE.out.below L3.out)).mono ?_
        rw [FA.out]
        rintro e w4 ⟨rfl, hl⟩
        have L4 := Lib.hid (L3.out.trans (hl.mono L3.out.size))
        clear hl L3
        go_wp2_with fail
        refine (IM.out a b w4 Ha.out Hb.out (HE.out.below L4.out)).mono ?_
        rw [FL.out]
        rintro e w5 ⟨rfl, hl⟩
        have L5 := Lib.hid (L4.out.trans (hl.mono L4.out.size))
        clear hl L4
        go_wp2_with fail
        refine (IM.out b a w5 Hb.out Ha.out (HE.out.below L5.out)).mono ?_
        rw [FG.out]
        rintro e w6 ⟨rfl, hl⟩
        have L6 := Lib.hid (L5.out.trans (hl.mono L5.out.size))
        clear hl L5
        go_wp2_with fail
        refine (IM.out a b w6 Ha.out Hb.out (HE.out.below L6.out)).mono ?_
        rw [FL.out]
        rintro e w7 ⟨rfl, hl⟩
        have L7 := Lib.hid (L6.out.trans (hl.mono L6.out.size))
        clear hl L6
        go_wp2_with fail
        refine (UN.out w7).mono ?_
        rw [FU.out]
        rintro e wu ⟨rfl, rfl⟩
        go_wp2
        go_ret
        exact ⟨rfl, L7.out⟩
      | false =>
        have FL := Lib.hid hl
        have FG := Lib.hid (ls_tot HAB.out hl)
        clear hl
        cases hu : Un a b with
        | false =>
          have FU := Lib.hid hu
          clear hu
          go_wp2_with fail
          refine (IM.out a b w1 Ha.out Hb.out (HE.out.below L1.out)).mono ?_
          rw [FL.out]
          rintro e w2 ⟨rfl, hl⟩
          have L2 := Lib.hid (L1.out.trans (hl.mono L1.out.size))
          clear hl L1
          go_wp2_with fail
          refine (SP.out w2).mono ?_
          rw [FL.out]
          rintro e w3 ⟨rfl, hl⟩
          have L3 := Lib.hid (L2.out.trans (hl.mono L2.out.size))
          clear hl L2
          go_wp2_with fail
          refine (IM.out a a w3 Ha.out Ha.out (HE.out.below L3.out)).mono ?_
          rw [FA.out]
          rintro e w4 ⟨rfl, hl⟩
          have L4 := Lib.hid (L3.out.trans (hl.mono L3.out.size))
          clear hl L3
          go_wp2_with fail
          refine (IM.out a b w4 Ha.out Hb.out (HE.out.below L4.out)).mono ?_
          rw [FL.out]
          rintro e w5 ⟨rfl, hl⟩
          have L5 := Lib.hid (L4.out.trans (hl.mono L4.out.size))
          clear hl L4
          go_wp2_with fail
          refine (IM.out a b w5 Ha.out Hb.out (HE.out.below L5.out)).mono ?_
          rw [FL.out]
          rintro e w6 ⟨rfl, hl⟩
          have L6 := Lib.hid (L5.out.trans (hl.mono L5.out.size))
          clear hl L5
          go_wp2_with fail
          refine (IM.out b a w6 Hb.out Ha.out (HE.out.below L6.out)).mono ?_
          rw [FG.out]
          rintro e w7 ⟨rfl, hl⟩
          have L7 := Lib.hid (L6.out.trans (hl.mono L6.out.size))
          clear hl L6
          go_wp2_with fail
          refine (UN.out w7).mono ?_
          rw [FU.out]
          rintro e wu ⟨rfl, rfl⟩
          go_wp2
          go_ret
          exact ⟨rfl, L7.out⟩
        | true =>
          have FU := Lib.hid hu
          clear hu
          go_wp2_with fail
          refine (IM.out a b w1 Ha.out Hb.out (HE.out.below L1.out)).mono ?_
          rw [FL.out]
          rintro e w2 ⟨rfl, hl⟩
          have L2 := Lib.hid (L1.out.trans (hl.mono L1.out.size))
          clear hl L1
          go_wp2_with fail
          refine (SP.out w2).mono ?_
          rw [FL.out]
          rintro e w3 ⟨rfl, hl⟩
          have L3 := Lib.hid (L2.out.trans (hl.mono L2.out.size))
          clear hl L2
          go_wp2_with fail
          refine (IM.out a a w3 Ha.out Ha.out (HE.out.below L3.out)).mono ?_
          rw [FA.out]
          rintro e w4 ⟨rfl, hl⟩
          have L4 := Lib.hid (L3.out.trans (hl.mono L3.out.size))
          clear hl L3
          go_wp2_with fail
          refine (IM.out a b w4 Ha.out Hb.out (HE.out.below L4.out)).mono ?_
          rw [FL.out]
          rintro e w5 ⟨rfl, hl⟩
          have L5 := Lib.hid (L4.out.trans (hl.mono L4.out.size))
          clear hl L4
          go_wp2_with fail
          refine (IM.out a b w5 Ha.out Hb.out (HE.out.below L5.out)).mono ?_
          rw [FL.out]
          rintro e w6 ⟨rfl, hl⟩
          have L6 := Lib.hid (L5.out.trans (hl.mono L5.out.size))
          clear hl L5
          go_wp2_with fail
          refine (IM.out b a w6 Hb.out Ha.out (HE.out.below L6.out)).mono ?_
          rw [FG.out]
          rintro e w7 ⟨rfl, hl⟩
          have L7 := Lib.hid (L6.out.trans (hl.mono L6.out.size))
          clear hl L6
          go_wp2_with fail
          refine (UN.out w7).mono ?_
          rw [FU.out]
          rintro e wu ⟨rfl, rfl⟩
          go_wp2_with fail
          refine (IM.out b a w7 Hb.out Ha.out (HE.out.below L7.out)).mono ?_
          rw [FG.out]
          rintro e w8 ⟨rfl, hl⟩
          have L8 := Lib.hid (L7.out.trans (hl.mono L7.out.size))
          clear hl L7
          go_wp2
          go_ret
          exact ⟨rfl, L8.out⟩
  · go_enter Tryd.func3, Tryd.ntmps3
    go_wp2_with fail
    refine (big_yes A n c w hn).mono ?_
    rintro e w0 ⟨rfl, rfl⟩
    go_wp2
    go_ret
    exact ⟨rfl, Below.refl _ _⟩
end Go.Proofs.YtebodggjcndbeaaDoor.LawOrders
