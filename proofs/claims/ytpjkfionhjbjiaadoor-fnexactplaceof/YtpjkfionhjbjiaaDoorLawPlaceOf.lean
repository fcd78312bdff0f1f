/- The law FnExactPlaceOf returns true on every slice that reads as bytes and every text, and turns nothing that was there, where the library's variable internal/bytealg.MaxLen holds an int: PlaceOf answers as its model. -/
import Derived.Test.YtpjkfionhjbjiaaDoorCopy
import Derived.Test.YtpjkfionhjbjiaaDoorEq
import Derived.Test.YtpjkfionhjbjiaaDoorPlace
namespace Go.Proofs.YtpjkfionhjbjiaaDoor.LawPlaceOf
open Go.RowKit Go.Proofs.YtpjkfionhjbjiaaDoor.Mem Go.Proofs.YtpjkfionhjbjiaaDoor.Copy Go.Proofs.YtpjkfionhjbjiaaDoor.Eq Go.Proofs.YtpjkfionhjbjiaaDoor.Labels Go.Proofs.YtpjkfionhjbjiaaDoor.JoinSpec Go.Proofs.YtpjkfionhjbjiaaDoor.Place

set_option maxHeartbeats 2000000 in
theorem walk (A : Option Addr) (n c : Nat) (l : List UInt8) (s : ByteArray) (w : World) (hs : Sl w w.heap.size A n l) (_hc : n ≤ c) (_hnil : A = none → n = 0 ∧ c = 0) (he : Env w) :
    Calls Tryd.prog 7 #[.slice A n c, .string s] w fun e w' => e = .returned (.bool true) ∧ Below w.heap.size w w' := by
  by_cases hbig : 1048576 < n
  · have hb' : (1048576 : Int) < (n : Int) := by omega
    go_enter Tryd.func7, Tryd.ntmps7
    go_wp2
    go_ret
    exact ⟨rfl, Below.refl _ _⟩
  by_cases hbs : 1048576 < s.size
  · have hb' : ¬ (1048576 : Int) < (n : Int) := by omega
    have hb2 : (1048576 : Int) < (s.size : Int) := by omega
    go_enter Tryd.func7, Tryd.ntmps7
    go_wp2
    go_ret
    exact ⟨rfl, Below.refl _ _⟩
  · have hb' : ¬ (1048576 : Int) < (n : Int) := by omega
    have hb2 : ¬ (1048576 : Int) < (s.size : Int) := by omega
    have SP := Lib.hid (fun A w hs => Place.spec A n n l s w hs (by omega) (Nat.le_refl _))
    have IM := Lib.hid (fun A w he hs => Place.impl A n n l s w he hs (by omega) (Nat.le_refl _))
    generalize pl l s = q at *
    have HS := Lib.hid hs
    have HL := Lib.hid hs.1
    have HE := Lib.hid he
    clear hs he
    go_enter Tryd.func7, Tryd.ntmps7
    go_wp2_with fail
    refine (toByteS_any A n c l w HS.out (by omega)).mono ?_
    rintro e w1 ⟨rfl, b1, l1⟩
    have B1 := Lib.hid b1
    have L1 := Lib.hid l1
    clear b1 l1
    go_wp2_with fail
    refine (SP.out _ w1 (HL.out ▸ (B1.out.sl.wider B1.out.lt))).mono ?_
    rintro e w2 ⟨rfl, l2⟩
    have L2 := Lib.hid (L1.out.trans (l2.mono L1.out.size))
    clear l2 L1 B1
    go_wp2_with fail
    refine (toByteS_any A n c l w2 ((HS.out.below L2.out).wider L2.out.size) (by omega)).mono ?_
    rintro e w3 ⟨rfl, b3, l3⟩
    have B3 := Lib.hid b3
    have L3 := Lib.hid (L2.out.trans (l3.mono L2.out.size))
    clear b3 l3 L2
    go_wp2_with fail
    refine (IM.out _ w3 (HE.out.below L3.out) (HL.out ▸ (B3.out.sl.wider B3.out.lt))).mono ?_
    rintro e w4 ⟨rfl, l4⟩
    have B4 := Lib.hid (B3.out.below l4 B3.out.lt)
    have L4 := Lib.hid (L3.out.trans (l4.mono L3.out.size))
    clear l4 L3 B3
    have hz : (q != q) = false := by simp
    go_wp2_with fail
    refine (toByteS_any A n c l w4 ((HS.out.below L4.out).wider L4.out.size) (by omega)).mono ?_
    rintro e w5 ⟨rfl, b5, l5⟩
    have B5 := Lib.hid b5
    have C5 := Lib.hid (B4.out.below l5 B4.out.lt)
    have L5 := Lib.hid (L4.out.trans (l5.mono L4.out.size))
    clear b5 l5 L4 B4
    go_wp2_with fail
    refine (eqByteS_same _ _ n n n n l w5 (HL.out ▸ (C5.out.sl.wider C5.out.lt)) (HL.out ▸ (B5.out.sl.wider B5.out.lt)) (by omega) (by omega)).mono ?_
    rintro e w6 ⟨rfl, l6⟩
    have L6 := Lib.hid (L5.out.trans (l6.mono L5.out.size))
    clear l6 L5 B5 C5
    go_wp2
    go_ret
    exact ⟨rfl, L6.out⟩
end Go.Proofs.YtpjkfionhjbjiaaDoor.LawPlaceOf
