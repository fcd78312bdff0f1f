/- The law FnExactJoinLabels returns true on every slice that reads as texts, and turns nothing that was there. -/
import Derived.Test.YtnjdgdpkodpoiaaJoin
import Derived.Test.YtnjdgdpkodpoiaaCopyS
import Derived.Test.YtnjdgdpkodpoiaaEqS
import Derived.Test.YtnjdgdpkodpoiaaSzS
namespace Go.Proofs.Ytnjdgdpkodpoiaa.LawJoinLabels
open Go.RowKit Go.Proofs.Ytnjdgdpkodpoiaa.Mem Go.Proofs.Ytnjdgdpkodpoiaa.MemS Go.Proofs.Ytnjdgdpkodpoiaa.CopyS Go.Proofs.Ytnjdgdpkodpoiaa.EqS Go.Proofs.Ytnjdgdpkodpoiaa.SzS Go.Proofs.Ytnjdgdpkodpoiaa.JoinSpec

set_option maxHeartbeats 2000000 in
theorem walk (A : Option Addr) (n c : Nat) (l : List ByteArray) (w : World) (hs : Ss w w.heap.size A n l) (hn : n ≤ 9223372036854775807) (hz : ∀ s ∈ l, s.size ≤ 9223372036854775807) :
    Calls Try.prog 8 #[.slice A n c] w fun e w' => e = .returned (.bool true) ∧ Below w.heap.size w w' := by
  have HS := Lib.hid hs
  have HL := Lib.hid hs.1
  have HZ := Lib.hid hz
  clear hs hz
  go_enter Try.func8, Try.ntmps8
  go_wp2_with fail
  refine (szStringS_any A n c l w _ HS.out hn HZ.out).mono ?_
  rintro e w0 ⟨r, rfl, hr, rfl⟩
  have HR := Lib.hid hr
  clear hr
  by_cases h0 : 0 ≤ r
  · have hT := HR.out h0
    have hn1 : n ≤ 1048576 := by have := HL.out; omega
    have HT := Lib.hid (show l.length + (l.map (·.size)).sum ≤ 4000000 by unfold tot at hT; omega)
    clear hT HR
    go_wp2_with fail
    refine (toStringS_any A n c l w HS.out (by omega)).mono ?_
    rintro e w1 ⟨rfl, b1, l1⟩
    have B1 := Lib.hid b1
    have L1 := Lib.hid l1
    clear b1 l1
    go_wp2_with fail
    refine (JoinSpec.any _ n n l w1 _ (bk_ssw0 B1.out HL.out) HT.out).mono ?_
    rintro e w2 ⟨rfl, rfl⟩
    clear B1
    go_wp2_with fail
    refine (toStringS_any A n c l w1 ((HS.out.below L1.out).wider L1.out.size) (by omega)).mono ?_
    rintro e w3 ⟨rfl, b3, l3⟩
    have B3 := Lib.hid b3
    have L3 := Lib.hid (L1.out.trans (l3.mono L1.out.size))
    clear b3 l3 L1
    go_wp2_with fail
    refine (Join.impl _ n n l w3 (bk_ssw0 B3.out HL.out) (Nat.le_refl _) HT.out).mono ?_
    rintro e w4 ⟨rfl, l4⟩
    have B4 := Lib.hid (B3.out.below l4 B3.out.lt)
    have L4 := Lib.hid (L3.out.trans (l4.mono L3.out.size))
    clear l4 L3 B3
    have q1 : ((Jo l).data.toList == (Jo l).data.toList) = true := by simp
    go_wp2_with fail
    refine (toStringS_any A n c l w4 ((HS.out.below L4.out).wider L4.out.size) (by omega)).mono ?_
    rintro e w5 ⟨rfl, b5, l5⟩
    have B5 := Lib.hid b5
    have C5 := Lib.hid (B4.out.below l5 B4.out.lt)
    have L5 := Lib.hid (L4.out.trans (l5.mono L4.out.size))
    clear b5 l5 L4 B4 q1
    go_wp2_with fail
    refine (eqStringS_same _ _ n n n l w5 w5.heap.size (bk_ssw0 C5.out HL.out) (bk_ssw0 B5.out HL.out) (by omega)).mono ?_
    rintro e w6 ⟨rfl, l6⟩
    have L6 := Lib.hid (L5.out.trans (l6.mono L5.out.size))
    clear l6 L5 B5 C5
    go_wp2
    go_ret
    exact ⟨rfl, L6.out⟩
  · go_wp2
    go_ret
    exact ⟨rfl, Below.refl _ _⟩
end Go.Proofs.Ytnjdgdpkodpoiaa.LawJoinLabels
