/- The law FnExactGet2 returns true on every slice that reads as bytes and every integer, and turns nothing that was there. -/
import Derived.Test.YtaladeifmaldeaaCopy
import Derived.Test.YtaladeifmaldeaaEq
import Derived.Test.YtaladeifmaldeaaGet
namespace Go.Proofs.Ytaladeifmaldeaa.LawGet2
open Go.RowKit Go.Proofs.Ytaladeifmaldeaa.Mem Go.Proofs.Ytaladeifmaldeaa.Copy Go.Proofs.Ytaladeifmaldeaa.Eq Go.Proofs.Ytaladeifmaldeaa.Get

theorem ne_self (x : Int) : (x != x) = false := by simp

/-- Both functions answer the same pair, whatever world they are called in. -/
def Both (n : Nat) (l : List UInt8) (k : Int) (x : Int) (b : Bool) : Prop :=
  ∀ (g : Nat) (w : World), Bk w g 5 (l.map bv) →
    Calls Try.prog 16 #[.slice (some ⟨g, 0, none⟩) n n, .int .i64 k] w (fun e w' => e = .returned (.tuple #[.int .i64 x, .bool b]) ∧ Below w.heap.size w w') ∧
    Calls Try.prog 15 #[.slice (some ⟨g, 0, none⟩) n n, .int .i64 k] w (fun e w' => e = .returned (.tuple #[.int .i64 x, .bool b]) ∧ Below w.heap.size w w')

theorem both (n : Nat) (l : List UInt8) (k : Int) (hl : l.length = n) (hn : n ≤ 1048576) : ∃ x b, Both n l k x b := by
  by_cases hk : 0 ≤ k ∧ k ≤ (n : Int) - 2
  · obtain ⟨k', rfl⟩ := Int.eq_ofNat_of_zero_le hk.1
    refine ⟨be ((l.drop k').take 2), true, fun g w hb => ?_⟩
    have hs : Sl w w.heap.size (some ⟨g, 0, none⟩) n l := hl ▸ (hb.sl.wider hb.lt)
    exact ⟨(specGet2_yes _ n n l w _ k' hs (by omega) (by omega)).mono fun e w' ⟨he, q, hw⟩ => ⟨he, hw ▸ drewN_below _ _ _⟩,
      (implGet2_yes _ n n l w _ k' hs (Nat.le_refl _) (by omega) (by omega)).mono fun e w' ⟨he, hw⟩ => ⟨he, hw ▸ Below.refl _ _⟩⟩
  · refine ⟨0, false, fun g w _ => ?_⟩
    exact ⟨(specGet2_no _ n n w k (by omega) (by omega)).mono fun e w' ⟨he, hw⟩ => ⟨he, hw ▸ Below.refl _ _⟩,
      (implGet2_no _ n n w k (by omega) (by omega)).mono fun e w' ⟨he, hw⟩ => ⟨he, hw ▸ Below.refl _ _⟩⟩

set_option maxHeartbeats 2000000 in
theorem walk (A : Option Addr) (n c : Nat) (l : List UInt8) (k : Int) (w : World) (hs : Sl w w.heap.size A n l) (_hc : n ≤ c) (_hnil : A = none → n = 0 ∧ c = 0) (_hk : (Lit.int .i64 k).wf = true) :
    Calls Try.prog 6 #[.slice A n c, .int .i64 k] w fun e w' => e = .returned (.bool true) ∧ Below w.heap.size w w' := by
  by_cases hbig : 1048576 < n
  · have hb' : (1048576 : Int) < (n : Int) := by omega
    go_enter Try.func6, Try.ntmps6
    go_wp2
    go_ret
    exact ⟨rfl, Below.refl _ _⟩
  · have hb' : ¬ (1048576 : Int) < (n : Int) := by omega
    obtain ⟨x, b, HB⟩ := both n l k hs.1 (by omega)
    have HS := Lib.hid hs
    have HL := Lib.hid hs.1
    clear hs
    go_enter Try.func6, Try.ntmps6
    go_wp2_with fail
    refine (toByteS_any A n c l w HS.out (by omega)).mono ?_
    rintro e w1 ⟨rfl, b1, l1⟩
    have B1 := Lib.hid b1
    have L1 := Lib.hid l1
    clear b1 l1
    go_wp2_with fail
    refine (HB _ _ B1.out).1.mono ?_
    rintro e w2 ⟨rfl, l2⟩
    have L2 := Lib.hid (L1.out.trans (l2.mono L1.out.size))
    clear l2 L1 B1
    go_wp2_with fail
    refine (toByteS_any A n c l w2 ((HS.out.below L2.out).wider L2.out.size) (by omega)).mono ?_
    rintro e w3 ⟨rfl, b3, l3⟩
    have B3 := Lib.hid b3
    have L3 := Lib.hid (L2.out.trans (l3.mono L2.out.size))
    clear b3 l3 L2
    go_wp2_with fail
    refine (HB _ _ B3.out).2.mono ?_
    rintro e w4 ⟨rfl, l4⟩
    have B4 := Lib.hid (B3.out.below l4 B3.out.lt)
    have L4 := Lib.hid (L3.out.trans (l4.mono L3.out.size))
    clear l4 L3 B3
    have hx := ne_self x
    have hbb : (b != b) = false := by cases b <;> rfl
    go_wp2_with fail
    refine (toByteS_any A n c l w4 ((HS.out.below L4.out).wider L4.out.size) (by omega)).mono ?_
    rintro e w5 ⟨rfl, b5, l5⟩
    have B5 := Lib.hid b5
    have C5 := Lib.hid (B4.out.below l5 B4.out.lt)
    have L5 := Lib.hid (L4.out.trans (l5.mono L4.out.size))
    clear b5 l5 L4 B4
    go_wp2_with fail
    refine (eqByteS_same _ _ n n n n l w5 (HL.out ▸ (C5.out.sl.wider C5.out.lt)) (HL.out ▸ (B5.out.sl.wider B5.out.lt)) (by omega) (by omega)).mono ?_
    rintro e w6 ⟨rfl, l6⟩
    have L6 := Lib.hid (L5.out.trans (l6.mono L5.out.size))
    clear l6 L5 B5 C5
    go_wp2
    go_ret
    exact ⟨rfl, L6.out⟩
end Go.Proofs.Ytaladeifmaldeaa.LawGet2
