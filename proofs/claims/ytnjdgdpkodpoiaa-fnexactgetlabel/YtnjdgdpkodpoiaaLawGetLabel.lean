/- The law FnExactGetLabel returns true on every slice that reads as bytes and every integer, and turns nothing that was there. -/
import Derived.Test.YtnjdgdpkodpoiaaCopy
import Derived.Test.YtnjdgdpkodpoiaaEq
import Derived.Test.YtnjdgdpkodpoiaaGetLabel
namespace Go.Proofs.Ytnjdgdpkodpoiaa.LawGetLabel
open Go.RowKit Go.Proofs.Ytnjdgdpkodpoiaa.Mem Go.Proofs.Ytnjdgdpkodpoiaa.Copy Go.Proofs.Ytnjdgdpkodpoiaa.Eq Go.Proofs.Ytnjdgdpkodpoiaa.GetLabel

set_option maxHeartbeats 2000000 in
theorem walk (A : Option Addr) (n c : Nat) (l : List UInt8) (k : Int) (w : World) (hs : Sl w w.heap.size A n l) (_hc : n ≤ c) (_hnil : A = none → n = 0 ∧ c = 0) (_hk : (Lit.int .i64 k).wf = true) :
    Calls Try.prog 7 #[.slice A n c, .int .i64 k] w fun e w' => e = .returned (.bool true) ∧ Below w.heap.size w w' := by
  by_cases hbig : 1048576 < n
  · have hb' : (1048576 : Int) < (n : Int) := by omega
    go_enter Try.func7, Try.ntmps7
    go_wp2
    go_ret
    exact ⟨rfl, Below.refl _ _⟩
  · have hb' : ¬ (1048576 : Int) < (n : Int) := by omega
    obtain ⟨t, y, b, HB, _⟩ := both n l k (by omega)
    have HS := Lib.hid hs
    have HL := Lib.hid hs.1
    clear hs
    go_enter Try.func7, Try.ntmps7
    go_wp2_with fail
    refine (toByteS_any A n c l w HS.out (by omega)).mono ?_
    rintro e w1 ⟨rfl, b1, l1⟩
    have B1 := Lib.hid b1
    have L1 := Lib.hid l1
    clear b1 l1
    go_wp2_with fail
    refine (HB _ n _ _ (HL.out ▸ (B1.out.sl.wider B1.out.lt)) (Nat.le_refl _)).1.mono ?_
    rintro e w2 ⟨rfl, l2⟩
    have L2 := Lib.hid (L1.out.trans (l2.mono L1.out.size))
    clear l2 L1 B1
    go_wp2_with fail
    refine (toByteS_any A n c l w2 ((HS.out.below L2.out).wider L2.out.size) (by omega)).mono ?_
    rintro e w3 ⟨rfl, b3, l3⟩
    have B3 := Lib.hid b3
    have L3 := Lib.hid (L2.out.trans (l3.mono L2.out.size))
    clear b3 l3 L2
    go_wp2_with fail
    refine (HB _ n _ _ (HL.out ▸ (B3.out.sl.wider B3.out.lt)) (Nat.le_refl _)).2.mono ?_
    rintro e w4 ⟨rfl, l4⟩
    have B4 := Lib.hid (B3.out.below l4 B3.out.lt)
    have L4 := Lib.hid (L3.out.trans (l4.mono L3.out.size))
    clear l4 L3 B3
    have hx : (t.data.toList == t.data.toList) = true := by simp
    have hy : (y != y) = false := by simp
    have hbb : (b != b) = false := by cases b <;> rfl
    go_wp2_with fail
    refine (toByteS_any A n c l w4 ((HS.out.below L4.out).wider L4.out.size) (by omega)).mono ?_
    rintro e w5 ⟨rfl, b5, l5⟩
    have B5 := Lib.hid b5
    have C5 := Lib.hid (B4.out.below l5 B4.out.lt)
    have L5 := Lib.hid (L4.out.trans (l5.mono L4.out.size))
    clear b5 l5 L4 B4
    go_wp2_with fail
    refine (eqByteS_same _ _ n n n n l w5 (HL.out ▸ (C5.out.sl.wider C5.out.lt)) (HL.out ▸ (B5.out.sl.wider B5.out.lt)) (by omega) (by omega)).mono ?_
    rintro e w6 ⟨rfl, l6⟩
    have L6 := Lib.hid (L5.out.trans (l6.mono L5.out.size))
    clear l6 L5 B5 C5
    go_wp2
    go_ret
    exact ⟨rfl, L6.out⟩
end Go.Proofs.Ytnjdgdpkodpoiaa.LawGetLabel
