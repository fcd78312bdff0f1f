/- The law FnExactGetQuest returns true on every slice that reads as bytes and every offset, where the library's variable internal/bytealg.MaxLen holds an int, and turns nothing that was there: GetQuest answers as its model. -/
import Derived.Test.YtkfibepejlgniaaDoorGetQD
import Derived.Test.YtkfibepejlgniaaDoorCopy
import Derived.Test.YtkfibepejlgniaaDoorEq
namespace Go.Proofs.YtkfibepejlgniaaDoor.LawGetQuestD
open Go.RowKit Go.Proofs.YtkfibepejlgniaaDoor.Mem Go.Proofs.YtkfibepejlgniaaDoor.Labels Go.Proofs.YtkfibepejlgniaaDoor.Copy Go.Proofs.YtkfibepejlgniaaDoor.Eq Go.Proofs.YtkfibepejlgniaaDoor.GetQD

set_option maxRecDepth 100000 in
set_option maxHeartbeats 4000000 in
theorem walk (A : Option Addr) (n c : Nat) (l : List UInt8) (k : Int) (w : World) (he : Env w) (hs : Sl w w.heap.size A n l) (_hc : n ≤ c) (_hnil : A = none → n = 0 ∧ c = 0) :
    Calls Tryd.prog 3 #[.slice A n c, .int .i64 k] w fun e w' => e = .returned (.bool true) ∧ Below w.heap.size w w' := by
  by_cases hbig : 1048576 < n
  · have hb' : (1048576 : Int) < (n : Int) := by omega
    go_enter Tryd.func3, Tryd.ntmps3
    go_wp2
    go_ret
    exact ⟨rfl, Below.refl _ _⟩
  · have hb' : ¬ (1048576 : Int) < (n : Int) := by omega
    have SP := Lib.hid (fun A w hs => GetQD.spec A n n l k w hs (Nat.le_refl _) (by omega))
    have IM := Lib.hid (fun A w he hs => GetQD.impl A n n l k w he hs (Nat.le_refl _) (by omega))
    generalize gq l k = X at *
    obtain ⟨c0, x0, s, t⟩ := X
    unfold valQ at SP IM
    dsimp only at SP IM
    have HS := Lib.hid hs
    have HL := Lib.hid hs.1
    have HE := Lib.hid he
    clear hs he
    go_enter Tryd.func3, Tryd.ntmps3
    go_wp2_with fail
    refine (toByteS_any A n c l w HS.out (by omega)).mono ?_
    rintro e w1 ⟨rfl, b1, l1⟩
    have B1 := Lib.hid b1
    have L1 := Lib.hid l1
    clear b1 l1
    go_wp2_with fail
    refine (SP.out _ w1 (HL.out ▸ (B1.out.sl.wider B1.out.lt))).mono ?_
    rintro e w2 ⟨rfl, l2⟩
    have L2 := Lib.hid ((L1.out.trans (l2.mono L1.out.size)).alloc (L1.out.trans (l2.mono L1.out.size)).size (.cells #[.string s, .int .i64 t] 24))
    have W2 := Lib.hid (qx_new w2 24 s t)
    clear l2 L1 B1
    go_wp2_with fail
    refine (toByteS_any A n c l _ ((HS.out.below L2.out).wider L2.out.size) (by omega)).mono ?_
    rintro e w3 ⟨rfl, b3, l3⟩
    have B3 := Lib.hid b3
    have W3 := Lib.hid (W2.out.below l3)
    have L3 := Lib.hid (L2.out.trans (l3.mono L2.out.size))
    clear b3 l3 L2 W2
    generalize (w2.alloc (.cells #[.string s, .int .i64 t] 24)).heap.size = gx at *
    generalize w2.heap.size = gw at *
    go_wp2_with fail
    refine (IM.out _ w3 (HE.out.below L3.out) (HL.out ▸ (B3.out.sl.wider B3.out.lt))).mono ?_
    rintro e w4 ⟨rfl, l4⟩
    have B4 := Lib.hid ((B3.out.below l4 B3.out.lt).alloc (.cells #[.string s, .int .i64 t] 24))
    have W4 := Lib.hid ((W3.out.below l4).below ((Below.refl _ _).alloc (Nat.le_refl _) (.cells #[.string s, .int .i64 t] 24)))
    have L4 := Lib.hid ((L3.out.trans (l4.mono L3.out.size)).alloc (L3.out.trans (l4.mono L3.out.size)).size (.cells #[.string s, .int .i64 t] 24))
    clear l4 L3 B3 W3
    have hy : (x0 != x0) = false := by simp
    have hz : ((c0 : Int) != (c0 : Int)) = false := by simp
    obtain ⟨y0, y1⟩ := W4.out
    go_wp2_with fail
    refine (eqQuest_same s t _).mono ?_
    rintro e w5 ⟨rfl, l5⟩
    have B5 := Lib.hid (B4.out.below l5 B4.out.lt)
    have L5 := Lib.hid (L4.out.trans (l5.mono L4.out.size))
    clear l5 L4 B4 W4 y0 y1
    go_wp2_with fail
    refine (toByteS_any A n c l w5 ((HS.out.below L5.out).wider L5.out.size) (by omega)).mono ?_
    rintro e w6 ⟨rfl, b6, l6⟩
    have T6 := Lib.hid b6
    have B6 := Lib.hid (B5.out.below l6 B5.out.lt)
    have L6 := Lib.hid (L5.out.trans (l6.mono L5.out.size))
    clear b6 l6 L5 B5
    go_wp2_with fail
    refine (eqByteS_same _ _ n n n n l w6 (HL.out ▸ (B6.out.sl.wider B6.out.lt)) (HL.out ▸ (T6.out.sl.wider T6.out.lt)) (by omega) (by omega)).mono ?_
    rintro e w7 ⟨rfl, l7⟩
    have L7 := Lib.hid (L6.out.trans (l7.mono L6.out.size))
    clear l7 L6 B6 T6
    go_wp2
    go_ret
    exact ⟨rfl, L7.out⟩
end Go.Proofs.YtkfibepejlgniaaDoor.LawGetQuestD
