/- What the program's GetHead does: it reads a header as HeadRd tells, and turns nothing that was there. Condition: at most 400000000 bytes. -/
import Derived.Test.YtkfibepejlgniaaGreatDoorExactGetMsgP2
import Derived.Test.YtkfibepejlgniaaGreatDoorWalkSpec
import Derived.Test.YtkfibepejlgniaaGreatDoorExactGetMsgP1
import Derived.Test.YtkfibepejlgniaaGreatDoorResR
import Derived.Test.YtkfibepejlgniaaGreatDoorTypes
import Derived.Test.YtkfibepejlgniaaGreatDoorResM
import Derived.Deep.RegionHeld3
/- What the model's GetData does: it reads as FieldMath tells (gd), and turns nothing that was there. Condition: at most 400000000 bytes. -/
namespace Go.Proofs.YtkfibepejlgniaaGreatDoor.GetSA
open Go.RowKit Go.Proofs.YtkfibepejlgniaaGreatDoor.Mem Go.Proofs.YtkfibepejlgniaaGreatDoor.MemR Go.Proofs.YtkfibepejlgniaaGreatDoor.JoinSpec Go.Proofs.YtkfibepejlgniaaGreatDoor.GetLabel Go.Proofs.YtkfibepejlgniaaGreatDoor.BoxR Go.Proofs.YtkfibepejlgniaaGreatDoor.NameOk Go.Proofs.YtkfibepejlgniaaGreatDoor.TextR Go.Proofs.YtkfibepejlgniaaGreatDoor.RecOk Go.Proofs.YtkfibepejlgniaaGreatDoor.WireMath Go.Proofs.YtkfibepejlgniaaGreatDoor.WireGood Go.Proofs.YtkfibepejlgniaaGreatDoor.WalkSpec Go.Proofs.YtkfibepejlgniaaGreatDoor.Get Go.Proofs.YtkfibepejlgniaaGreatDoor.Label Go.Proofs.YtkfibepejlgniaaGreatDoor.FieldMath Go.Proofs.YtkfibepejlgniaaGreatDoor.FieldRd Go.Proofs.YtkfibepejlgniaaGreatDoor.ResR Go.Proofs.YtkfibepejlgniaaGreatDoor.GetI

theorem get4 (A : Option Addr) (n c : Nat) (l : List UInt8) (k : Int) (w : World) (B : Nat) (hs : Sl w B A n l) (hn : n ≤ 400000000) :
    Calls Tryz.prog 173 #[.slice A n c, .int .i64 k] w fun e w' => e = .returned (.tuple #[.int .i64 (FieldMath.n4 l k).1, .bool (FieldMath.n4 l k).2]) ∧ Below w.heap.size w w' := by
  have hl := hs.1
  unfold FieldMath.n4
  by_cases h : 0 ≤ k ∧ k ≤ (l.length : Int) - 4
  · rw [if_pos h]
    obtain ⟨j, rfl⟩ := Int.eq_ofNat_of_zero_le h.1
    refine (specGet4_yes A n c l w B j hs hn (by omega)).mono fun e w' ⟨he, q, hw⟩ => ⟨?_, hw ▸ drewN_below _ _ _⟩
    rw [he, Int.toNat_natCast]
    unfold four
    by_cases hv : 2147483647 < be ((l.drop j).take 4)
    · rw [if_pos hv, if_pos hv]
    · rw [if_neg hv, if_neg hv]
  · rw [if_neg h]
    exact (specGet4_no A n c w k hn (by omega)).mono fun e w' ⟨he, hw⟩ => ⟨he, hw ▸ Below.refl _ _⟩
theorem get2 (A : Option Addr) (n c : Nat) (l : List UInt8) (k : Int) (w : World) (B : Nat) (hs : Sl w B A n l) (hn : n ≤ 400000000) :
    Calls Tryz.prog 100 #[.slice A n c, .int .i64 k] w fun e w' => e = .returned (.tuple #[.int .i64 (FieldMath.n2 l k).1, .bool (FieldMath.n2 l k).2]) ∧ Below w.heap.size w w' := by
  have hl := hs.1
  unfold FieldMath.n2
  by_cases h : 0 ≤ k ∧ k ≤ (l.length : Int) - 2
  · rw [if_pos h]
    obtain ⟨j, rfl⟩ := Int.eq_ofNat_of_zero_le h.1
    exact (specGet2_yes A n c l w B j hs hn (by omega)).mono fun e w' ⟨he, q, hw⟩ => ⟨he, hw ▸ drewN_below _ _ _⟩
  · rw [if_neg h]
    exact (specGet2_no A n c w k hn (by omega)).mono fun e w' ⟨he, hw⟩ => ⟨he, hw ▸ Below.refl _ _⟩
/-- The record that stands ready for the data of type ty. -/
def r0 (ty : Int) : Rec := ⟨⟨#[]⟩, ty, 0, 0, ⟨#[]⟩, ⟨#[]⟩⟩
theorem box_a (w : World) : Bk ((w.alloc (.cells #[.string ⟨#[]⟩, .int .i64 0, .int .i64 0, .int .i64 0, .string ⟨#[]⟩, .string ⟨#[]⟩] 117)).alloc (.cells #[.string ⟨#[]⟩, .int .i64 0, .int .i64 0, .int .i64 0, .string ⟨#[]⟩, .string ⟨#[]⟩] 117)) w.heap.size 117 (rc zr) := Bk.alloc (heap_alloc_new w _) _
theorem box_b (w : World) : Bk ((w.alloc (.cells #[.string ⟨#[]⟩, .int .i64 0, .int .i64 0, .int .i64 0, .string ⟨#[]⟩, .string ⟨#[]⟩] 117)).alloc (.cells #[.string ⟨#[]⟩, .int .i64 0, .int .i64 0, .int .i64 0, .string ⟨#[]⟩, .string ⟨#[]⟩] 117)) (w.heap.size + 1) 117 (rc zr) := by
  have := heap_alloc_new (w.alloc (.cells #[.string ⟨#[]⟩, .int .i64 0, .int .i64 0, .int .i64 0, .string ⟨#[]⟩, .string ⟨#[]⟩] 117)) (.cells #[.string ⟨#[]⟩, .int .i64 0, .int .i64 0, .int .i64 0, .string ⟨#[]⟩, .string ⟨#[]⟩] 117)
  rw [show (w.alloc (.cells #[.string ⟨#[]⟩, .int .i64 0, .int .i64 0, .int .i64 0, .string ⟨#[]⟩, .string ⟨#[]⟩] 117)).heap.size = w.heap.size + 1 by simp] at this
  exact this
theorem box_c (w : World) (ty : Int) : Bk (((w.alloc (.cells #[.string ⟨#[]⟩, .int .i64 0, .int .i64 0, .int .i64 0, .string ⟨#[]⟩, .string ⟨#[]⟩] 117)).alloc (.cells #[.string ⟨#[]⟩, .int .i64 0, .int .i64 0, .int .i64 0, .string ⟨#[]⟩, .string ⟨#[]⟩] 117)).alloc (.cells #[.string ⟨#[]⟩, .int .i64 ty, .int .i64 0, .int .i64 0, .string ⟨#[]⟩, .string ⟨#[]⟩] 117)) (w.heap.size + 1 + 1) 117 (rc (r0 ty)) := by
  have := heap_alloc_new ((w.alloc (.cells #[.string ⟨#[]⟩, .int .i64 0, .int .i64 0, .int .i64 0, .string ⟨#[]⟩, .string ⟨#[]⟩] 117)).alloc (.cells #[.string ⟨#[]⟩, .int .i64 0, .int .i64 0, .int .i64 0, .string ⟨#[]⟩, .string ⟨#[]⟩] 117)) (.cells #[.string ⟨#[]⟩, .int .i64 ty, .int .i64 0, .int .i64 0, .string ⟨#[]⟩, .string ⟨#[]⟩] 117)
  rw [show ((w.alloc (.cells #[.string ⟨#[]⟩, .int .i64 0, .int .i64 0, .int .i64 0, .string ⟨#[]⟩, .string ⟨#[]⟩] 117)).alloc (.cells #[.string ⟨#[]⟩, .int .i64 0, .int .i64 0, .int .i64 0, .string ⟨#[]⟩, .string ⟨#[]⟩] 117)).heap.size = w.heap.size + 1 + 1 by simp] at this
  exact this
theorem low_b (w : World) : Below w.heap.size w ((w.alloc (.cells #[.string ⟨#[]⟩, .int .i64 0, .int .i64 0, .int .i64 0, .string ⟨#[]⟩, .string ⟨#[]⟩] 117)).alloc (.cells #[.string ⟨#[]⟩, .int .i64 0, .int .i64 0, .int .i64 0, .string ⟨#[]⟩, .string ⟨#[]⟩] 117)) := ((Below.refl _ _).alloc (Nat.le_refl _) _).alloc (by simp) _
theorem low_c (w : World) (ty : Int) : Below w.heap.size w (((w.alloc (.cells #[.string ⟨#[]⟩, .int .i64 0, .int .i64 0, .int .i64 0, .string ⟨#[]⟩, .string ⟨#[]⟩] 117)).alloc (.cells #[.string ⟨#[]⟩, .int .i64 0, .int .i64 0, .int .i64 0, .string ⟨#[]⟩, .string ⟨#[]⟩] 117)).alloc (.cells #[.string ⟨#[]⟩, .int .i64 ty, .int .i64 0, .int .i64 0, .string ⟨#[]⟩, .string ⟨#[]⟩] 117)) := (low_b w).alloc (by simp; omega) _

set_option maxRecDepth 100000 in
set_option maxHeartbeats 2000000 in
theorem data_n (A : Option Addr) (n c : Nat) (l : List UInt8) (k q ty : Int) (w : World) (h : ¬ (0 ≤ q ∧ q ≤ 255)) :
    Calls Tryz.prog 174 #[.slice A n c, .int .i64 k, .int .i64 q, .int .i64 ty] w fun e w' => e = .returned (val2 (gd l k q ty)) ∧ Below w.heap.size w w' := by
  have HI : Hid (decide ((0 : Int) ≤ q ∧ q ≤ 255) = false) := decide_eq_false h
  have HX : Hid (gd l k q ty = (2, zr)) := gd_n h
  generalize gd l k q ty = X at *
  clear h
  go_enter Tryz.func174, Tryz.ntmps174
  go_wp2_with fail
  refine (l1In_any _ _ _ _).mono ?_
  rw [HI.out]
  rintro e w1 ⟨rfl, rfl⟩
  go_wp2_with fail
  refine (l1In_any _ _ _ _).mono ?_
  rw [HI.out]
  rintro e w1 ⟨rfl, rfl⟩
  go_wp2
  refine bodyPost_ret (v := val2 (2, zr)) (res2 rfl (box_a w) rfl rfl) rfl ⟨by rw [HX.out], low_b w⟩

set_option maxRecDepth 100000 in
set_option maxHeartbeats 2000000 in
theorem data_t (A : Option Addr) (n c : Nat) (l : List UInt8) (k q ty : Int) (w : World) (hs : Sl w w.heap.size A n l) (hn : n ≤ 400000000) (h : 0 ≤ q ∧ q ≤ 255) (ht : ¬ (ty = 1 ∨ ty = 2 ∨ ty = 5 ∨ ty = 6 ∨ ty = 16)) :
    Calls Tryz.prog 174 #[.slice A n c, .int .i64 k, .int .i64 q, .int .i64 ty] w fun e w' => e = .returned (val2 (gd l k q ty)) ∧ Below w.heap.size w w' := by
  have hl := hs.1
  have HI : Hid (decide ((0 : Int) ≤ q ∧ q ≤ 255) = true) := decide_eq_true h
  have HY : Hid (Types.ty ty = false) := decide_eq_false ht
  by_cases hk : k < 0 ∨ (n : Int) - q < k
  · have HX : Hid (gd l k q ty = (1, zr)) := gd_out h (by rw [hl]; exact hk)
    generalize gd l k q ty = X at *
    clear hs hl ht
    obtain ⟨h0, h1⟩ := h
    rcases (show k < 0 ∨ (¬ k < 0 ∧ (n : Int) - q < k) by omega) with hk | ⟨hk0, hk⟩
    all_goals
      go_enter Tryz.func174, Tryz.ntmps174
      go_wp2_with fail
      refine (l1In_any _ _ _ _).mono ?_
      rw [HI.out]
      rintro e w1 ⟨rfl, rfl⟩
      go_wp2_with fail
      refine (Types.spec_ok _ _).mono ?_
      rw [HY.out]
      rintro e w1 ⟨rfl, rfl⟩
      go_wp2_with fail
      refine (l1In_any _ _ _ _).mono ?_
      rw [HI.out]
      rintro e w1 ⟨rfl, rfl⟩
      go_wp2
      refine bodyPost_ret (v := val2 (1, zr)) (res2 rfl (box_a w) rfl rfl) rfl ⟨by rw [HX.out], low_b w⟩
  · have HX : Hid (gd l k q ty = (2, zr)) := gd_ty h (by rw [hl]; exact hk) ht
    generalize gd l k q ty = X at *
    clear hs hl ht
    obtain ⟨h0, h1⟩ := h
    have hk0 : ¬ k < 0 := by omega
    have hk1 : ¬ (n : Int) - q < k := by omega
    clear hk
    go_enter Tryz.func174, Tryz.ntmps174
    go_wp2_with fail
    refine (l1In_any _ _ _ _).mono ?_
    rw [HI.out]
    rintro e w1 ⟨rfl, rfl⟩
    go_wp2_with fail
    refine (Types.spec_ok _ _).mono ?_
    rw [HY.out]
    rintro e w1 ⟨rfl, rfl⟩
    go_wp2_with fail
    refine (l1In_any _ _ _ _).mono ?_
    rw [HI.out]
    rintro e w1 ⟨rfl, rfl⟩
    go_wp2
    refine bodyPost_ret (v := val2 (2, zr)) (res2 rfl (box_a w) rfl rfl) rfl ⟨by rw [HX.out], low_b w⟩

set_option maxRecDepth 100000 in
set_option maxHeartbeats 2000000 in
theorem data_o (A : Option Addr) (n c : Nat) (l : List UInt8) (k q ty : Int) (w : World) (hs : Sl w w.heap.size A n l) (hn : n ≤ 400000000) (h : 0 ≤ q ∧ q ≤ 255) (ht : ty = 1 ∨ ty = 2 ∨ ty = 5 ∨ ty = 6 ∨ ty = 16) (hk : k < 0 ∨ (n : Int) - q < k) :
    Calls Tryz.prog 174 #[.slice A n c, .int .i64 k, .int .i64 q, .int .i64 ty] w fun e w' => e = .returned (val2 (gd l k q ty)) ∧ Below w.heap.size w w' := by
  have hl := hs.1
  have HI : Hid (decide ((0 : Int) ≤ q ∧ q ≤ 255) = true) := decide_eq_true h
  have HY : Hid (Types.ty ty = true) := decide_eq_true ht
  have HX : Hid (gd l k q ty = (1, zr)) := gd_out h (by rw [hl]; exact hk)
  generalize gd l k q ty = X at *
  clear hs hl ht
  obtain ⟨h0, h1⟩ := h
  rcases (show k < 0 ∨ (¬ k < 0 ∧ (n : Int) - q < k) by omega) with hk | ⟨hk0, hk⟩
  all_goals
    go_enter Tryz.func174, Tryz.ntmps174
    go_wp2_with fail
    refine (l1In_any _ _ _ _).mono ?_
    rw [HI.out]
    rintro e w1 ⟨rfl, rfl⟩
    go_wp2_with fail
    refine (Types.spec_ok _ _).mono ?_
    rw [HY.out]
    rintro e w1 ⟨rfl, rfl⟩
    go_wp2
    refine bodyPost_ret (v := val2 (1, zr)) (res2 rfl (box_a w) rfl rfl) rfl ⟨by rw [HX.out], low_b w⟩

set_option maxRecDepth 100000 in
set_option maxHeartbeats 2000000 in
theorem data_1 (A : Option Addr) (n c : Nat) (l : List UInt8) (k q : Int) (w : World) (hs : Sl w w.heap.size A n l) (hn : n ≤ 400000000) (h : 0 ≤ q ∧ q ≤ 255) (hk : ¬ (k < 0 ∨ (n : Int) - q < k)) :
    Calls Tryz.prog 174 #[.slice A n c, .int .i64 k, .int .i64 q, .int .i64 1] w fun e w' => e = .returned (val2 (gd l k q 1)) ∧ Below w.heap.size w w' := by
  have hl := hs.1
  have HI : Hid (decide ((0 : Int) ≤ q ∧ q ≤ 255) = true) := decide_eq_true h
  have HY : Hid (Types.ty 1 = true) := rfl
  have HX := Lib.hid (gd_1 h (by rw [hl]; exact hk))
  have G4 := Lib.hid (fun W (hW : Below w.heap.size w W) => get4 A n c l k W _ (hs.below hW) hn)
  generalize gd l k q 1 = X at *
  generalize FieldMath.n4 l k = y at *
  obtain ⟨x, b⟩ := y
  clear hs hl
  obtain ⟨h0, h1⟩ := h
  have hk0 : ¬ k < 0 := by omega
  have hk1 : ¬ (n : Int) - q < k := by omega
  clear hk
  go_enter Tryz.func174, Tryz.ntmps174
  go_wp2_with fail
  refine (l1In_any _ _ _ _).mono ?_
  rw [HI.out]
  rintro e w1 ⟨rfl, rfl⟩
  go_wp2_with fail
  refine (Types.spec_ok _ _).mono ?_
  rw [HY.out]
  rintro e w1 ⟨rfl, rfl⟩
  go_wp2_with fail
  refine (G4.out _ (low_c w 1)).mono ?_
  rintro e w1 ⟨rfl, hl⟩
  have L1 := Lib.hid ((low_c w 1).trans (hl.mono (low_c w 1).size))
  have Z1 := Lib.hid (Bk.below ((box_a w).alloc _) hl (by first | (simp; done) | (simp; omega)))
  have N1 := Lib.hid (Bk.below ((box_b w).alloc _) hl (by first | (simp; done) | (simp; omega)))
  have X1 := Lib.hid (Bk.below (box_c w 1) hl (box_c w 1).lt)
  clear hl G4
  obtain ⟨z0, z1, z2, z3, z4, z5⟩ := bx_of Z1.out
  obtain ⟨n0, n1, n2, n3, n4, n5⟩ := bx_of N1.out
  obtain ⟨x0, x1, x2, x3, x4, x5⟩ := bx_of X1.out
  have f0 := Z1.out.free 0
  have f1 := Z1.out.free 1
  have f2 := Z1.out.free 2
  have f3 := Z1.out.free 3
  have f4 := Z1.out.free 4
  have f5 := Z1.out.free 5
  have e3 := X1.out.free 3
  have e4 := X1.out.free 4
  have e5 := X1.out.free 5
  have Z2 := Lib.hid (Z1.out.other (p := ⟨w.heap.size + 1 + 1, 3, none⟩) (by show w.heap.size ≠ w.heap.size + 1 + 1; omega) (.int .i64 x))
  have L2 := Lib.hid (L1.out.setCell (p := ⟨w.heap.size + 1 + 1, 3, none⟩) (by show w.heap.size ≤ w.heap.size + 1 + 1; omega) (.int .i64 x))
  cases b
  · have HX2 : Hid (X = (2, zr)) := HX.out.trans (if_neg (fun e => by simp at e))
    clear HX
    go_wp2
    refine bodyPost_ret (v := val2 (2, zr)) (res2 rfl (fil_bk Z2.out zr) rfl rfl) rfl ⟨by rw [HX2.out], fil_below L2.out (Nat.le_refl _) zr⟩
  · by_cases hq : q = 4
    · have hq2 : (q != 4) = false := by simp [hq]
      have HX2 : Hid (X = (0, rA x)) := HX.out.trans (if_pos ⟨rfl, hq⟩)
      clear HX hq
      go_wp2
      refine bodyPost_ret (v := val2 (0, rA x)) (res2 rfl (fil_bk Z2.out (rA x)) rfl rfl) rfl ⟨by rw [HX2.out], fil_below L2.out (Nat.le_refl _) (rA x)⟩
    · have hq2 : (q != 4) = true := by simpa using hq
      have HX2 : Hid (X = (2, zr)) := HX.out.trans (if_neg (fun e => hq e.2))
      clear HX hq
      go_wp2
      refine bodyPost_ret (v := val2 (2, zr)) (res2 rfl (fil_bk Z2.out zr) rfl rfl) rfl ⟨by rw [HX2.out], fil_below L2.out (Nat.le_refl _) zr⟩

end Go.Proofs.YtkfibepejlgniaaGreatDoor.GetSA

/- What the model's GetData does, of one type each: as GetSA tells. -/
namespace Go.Proofs.YtkfibepejlgniaaGreatDoor.GetSB
open Go.RowKit Go.Proofs.YtkfibepejlgniaaGreatDoor.Mem Go.Proofs.YtkfibepejlgniaaGreatDoor.MemR Go.Proofs.YtkfibepejlgniaaGreatDoor.JoinSpec Go.Proofs.YtkfibepejlgniaaGreatDoor.GetLabel Go.Proofs.YtkfibepejlgniaaGreatDoor.BoxR Go.Proofs.YtkfibepejlgniaaGreatDoor.NameOk Go.Proofs.YtkfibepejlgniaaGreatDoor.TextR Go.Proofs.YtkfibepejlgniaaGreatDoor.RecOk Go.Proofs.YtkfibepejlgniaaGreatDoor.WireMath Go.Proofs.YtkfibepejlgniaaGreatDoor.WireGood Go.Proofs.YtkfibepejlgniaaGreatDoor.WalkSpec Go.Proofs.YtkfibepejlgniaaGreatDoor.Get Go.Proofs.YtkfibepejlgniaaGreatDoor.Label Go.Proofs.YtkfibepejlgniaaGreatDoor.FieldMath Go.Proofs.YtkfibepejlgniaaGreatDoor.FieldRd Go.Proofs.YtkfibepejlgniaaGreatDoor.ResR Go.Proofs.YtkfibepejlgniaaGreatDoor.GetI Go.Proofs.YtkfibepejlgniaaGreatDoor.GetSA

set_option maxRecDepth 100000 in
set_option maxHeartbeats 2000000 in
theorem data_2 (A : Option Addr) (n c : Nat) (l : List UInt8) (k q : Int) (w : World) (hs : Sl w w.heap.size A n l) (hnc : n ≤ c) (hn : n ≤ 400000000) (h : 0 ≤ q ∧ q ≤ 255) (hk : ¬ (k < 0 ∨ (n : Int) - q < k)) :
    Calls Tryz.prog 174 #[.slice A n c, .int .i64 k, .int .i64 q, .int .i64 2] w fun e w' => e = .returned (val2 (gd l k q 2)) ∧ Below w.heap.size w w' := by
  have hl := hs.1
  have HI : Hid (decide ((0 : Int) ≤ q ∧ q ≤ 255) = true) := decide_eq_true h
  have HY : Hid (Types.ty 2 = true) := rfl
  have HX := Lib.hid (gd_h h (by rw [hl]; exact hk) (Or.inl rfl))
  have GN := Lib.hid (fun W (hW : Below w.heap.size w W) => WalkSpec.getName A n c l k W _ rfl ((hs.below hW).wider hW.size) hn hnc)
  generalize gd l k q 2 = X at *
  generalize rn l [] k k 0 (-1) = R at *
  obtain ⟨c0, L, p, j⟩ := R
  unfold val3 at GN
  dsimp only at GN HX
  generalize Jo L = s at *
  clear hs hl
  obtain ⟨h0, h1⟩ := h
  have hk0 : ¬ k < 0 := by omega
  have hk1 : ¬ (n : Int) - q < k := by omega
  clear hk
  go_enter Tryz.func174, Tryz.ntmps174
  go_wp2_with fail
  refine (l1In_any _ _ _ _).mono ?_
  rw [HI.out]
  rintro e w1 ⟨rfl, rfl⟩
  go_wp2_with fail
  refine (Types.spec_ok _ _).mono ?_
  rw [HY.out]
  rintro e w1 ⟨rfl, rfl⟩
  go_wp2_with fail
  refine (GN.out _ (low_c w 2)).mono ?_
  rintro e w1 ⟨rfl, hl⟩
  have L1 := Lib.hid ((low_c w 2).trans (hl.mono (low_c w 2).size))
  have Z1 := Lib.hid (Bk.below ((box_a w).alloc _) hl (by first | (simp; done) | (simp; omega)))
  have N1 := Lib.hid (Bk.below ((box_b w).alloc _) hl (by first | (simp; done) | (simp; omega)))
  have X1 := Lib.hid (Bk.below (box_c w 2) hl (box_c w 2).lt)
  clear hl GN
  obtain ⟨z0, z1, z2, z3, z4, z5⟩ := bx_of Z1.out
  obtain ⟨n0, n1, n2, n3, n4, n5⟩ := bx_of N1.out
  obtain ⟨x0, x1, x2, x3, x4, x5⟩ := bx_of X1.out
  have f0 := Z1.out.free 0
  have f1 := Z1.out.free 1
  have f2 := Z1.out.free 2
  have f3 := Z1.out.free 3
  have f4 := Z1.out.free 4
  have f5 := Z1.out.free 5
  have e3 := X1.out.free 3
  have e4 := X1.out.free 4
  have e5 := X1.out.free 5
  by_cases hc : c0 = 0
  · subst hc
    have HX2 := Lib.hid (HX.out.trans (if_neg (fun e => e rfl)))
    clear HX
    have Z2 := Lib.hid (Z1.out.other (p := ⟨w.heap.size + 1 + 1, 4, none⟩) (by show w.heap.size ≠ w.heap.size + 1 + 1; omega) (.string s))
    have L2 := Lib.hid (L1.out.setCell (p := ⟨w.heap.size + 1 + 1, 4, none⟩) (by show w.heap.size ≤ w.heap.size + 1 + 1; omega) (.string s))
    by_cases hq : p = k + q
    · have hq2 : (p != k + q) = false := by simp [hq]
      have HX3 : Hid (X = (0, rH 2 s)) := HX2.out.trans (if_pos hq)
      clear HX2 hq
      go_wp2
      refine bodyPost_ret (v := val2 (0, rH 2 s)) (res2 rfl (fil_bk Z2.out (rH 2 s)) rfl rfl) rfl ⟨by rw [HX3.out], fil_below L2.out (Nat.le_refl _) (rH 2 s)⟩
    · have hq2 : (p != k + q) = true := by simpa using hq
      have HX3 : Hid (X = (2, zr)) := HX2.out.trans (if_neg hq)
      clear HX2 hq
      go_wp2
      refine bodyPost_ret (v := val2 (2, zr)) (res2 rfl (fil_bk Z2.out zr) rfl rfl) rfl ⟨by rw [HX3.out], fil_below L2.out (Nat.le_refl _) zr⟩
  · have HX2 := Lib.hid (HX.out.trans (if_pos hc))
    have hc2 : ((c0 : Int) != 0) = true := by simp; omega
    clear HX
    go_wp2
    refine bodyPost_ret (v := val2 (c0, zr)) (res2 rfl (fil_bk Z1.out zr) rfl rfl) rfl ⟨by rw [HX2.out], fil_below L1.out (Nat.le_refl _) zr⟩

set_option maxRecDepth 100000 in
set_option maxHeartbeats 2000000 in
theorem data_5 (A : Option Addr) (n c : Nat) (l : List UInt8) (k q : Int) (w : World) (hs : Sl w w.heap.size A n l) (hnc : n ≤ c) (hn : n ≤ 400000000) (h : 0 ≤ q ∧ q ≤ 255) (hk : ¬ (k < 0 ∨ (n : Int) - q < k)) :
    Calls Tryz.prog 174 #[.slice A n c, .int .i64 k, .int .i64 q, .int .i64 5] w fun e w' => e = .returned (val2 (gd l k q 5)) ∧ Below w.heap.size w w' := by
  have hl := hs.1
  have HI : Hid (decide ((0 : Int) ≤ q ∧ q ≤ 255) = true) := decide_eq_true h
  have HY : Hid (Types.ty 5 = true) := rfl
  have HX := Lib.hid (gd_h h (by rw [hl]; exact hk) (Or.inr rfl))
  have GN := Lib.hid (fun W (hW : Below w.heap.size w W) => WalkSpec.getName A n c l k W _ rfl ((hs.below hW).wider hW.size) hn hnc)
  generalize gd l k q 5 = X at *
  generalize rn l [] k k 0 (-1) = R at *
  obtain ⟨c0, L, p, j⟩ := R
  unfold val3 at GN
  dsimp only at GN HX
  generalize Jo L = s at *
  clear hs hl
  obtain ⟨h0, h1⟩ := h
  have hk0 : ¬ k < 0 := by omega
  have hk1 : ¬ (n : Int) - q < k := by omega
  clear hk
  go_enter Tryz.func174, Tryz.ntmps174
  go_wp2_with fail
  refine (l1In_any _ _ _ _).mono ?_
  rw [HI.out]
  rintro e w1 ⟨rfl, rfl⟩
  go_wp2_with fail
  refine (Types.spec_ok _ _).mono ?_
  rw [HY.out]
  rintro e w1 ⟨rfl, rfl⟩
  go_wp2_with fail
  refine (GN.out _ (low_c w 5)).mono ?_
  rintro e w1 ⟨rfl, hl⟩
  have L1 := Lib.hid ((low_c w 5).trans (hl.mono (low_c w 5).size))
  have Z1 := Lib.hid (Bk.below ((box_a w).alloc _) hl (by first | (simp; done) | (simp; omega)))
  have N1 := Lib.hid (Bk.below ((box_b w).alloc _) hl (by first | (simp; done) | (simp; omega)))
  have X1 := Lib.hid (Bk.below (box_c w 5) hl (box_c w 5).lt)
  clear hl GN
  obtain ⟨z0, z1, z2, z3, z4, z5⟩ := bx_of Z1.out
  obtain ⟨n0, n1, n2, n3, n4, n5⟩ := bx_of N1.out
  obtain ⟨x0, x1, x2, x3, x4, x5⟩ := bx_of X1.out
  have f0 := Z1.out.free 0
  have f1 := Z1.out.free 1
  have f2 := Z1.out.free 2
  have f3 := Z1.out.free 3
  have f4 := Z1.out.free 4
  have f5 := Z1.out.free 5
  have e3 := X1.out.free 3
  have e4 := X1.out.free 4
  have e5 := X1.out.free 5
  by_cases hc : c0 = 0
  · subst hc
    have HX2 := Lib.hid (HX.out.trans (if_neg (fun e => e rfl)))
    clear HX
    have Z2 := Lib.hid (Z1.out.other (p := ⟨w.heap.size + 1 + 1, 4, none⟩) (by show w.heap.size ≠ w.heap.size + 1 + 1; omega) (.string s))
    have L2 := Lib.hid (L1.out.setCell (p := ⟨w.heap.size + 1 + 1, 4, none⟩) (by show w.heap.size ≤ w.heap.size + 1 + 1; omega) (.string s))
    by_cases hq : p = k + q
    · have hq2 : (p != k + q) = false := by simp [hq]
      have HX3 : Hid (X = (0, rH 5 s)) := HX2.out.trans (if_pos hq)
      clear HX2 hq
      go_wp2
      refine bodyPost_ret (v := val2 (0, rH 5 s)) (res2 rfl (fil_bk Z2.out (rH 5 s)) rfl rfl) rfl ⟨by rw [HX3.out], fil_below L2.out (Nat.le_refl _) (rH 5 s)⟩
    · have hq2 : (p != k + q) = true := by simpa using hq
      have HX3 : Hid (X = (2, zr)) := HX2.out.trans (if_neg hq)
      clear HX2 hq
      go_wp2
      refine bodyPost_ret (v := val2 (2, zr)) (res2 rfl (fil_bk Z2.out zr) rfl rfl) rfl ⟨by rw [HX3.out], fil_below L2.out (Nat.le_refl _) zr⟩
  · have HX2 := Lib.hid (HX.out.trans (if_pos hc))
    have hc2 : ((c0 : Int) != 0) = true := by simp; omega
    clear HX
    go_wp2
    refine bodyPost_ret (v := val2 (c0, zr)) (res2 rfl (fil_bk Z1.out zr) rfl rfl) rfl ⟨by rw [HX2.out], fil_below L1.out (Nat.le_refl _) zr⟩

end Go.Proofs.YtkfibepejlgniaaGreatDoor.GetSB

/- What the model's GetData does, of one type each: as GetSA tells. -/
namespace Go.Proofs.YtkfibepejlgniaaGreatDoor.GetSC
open Go.RowKit Go.Proofs.YtkfibepejlgniaaGreatDoor.Mem Go.Proofs.YtkfibepejlgniaaGreatDoor.MemR Go.Proofs.YtkfibepejlgniaaGreatDoor.JoinSpec Go.Proofs.YtkfibepejlgniaaGreatDoor.GetLabel Go.Proofs.YtkfibepejlgniaaGreatDoor.BoxR Go.Proofs.YtkfibepejlgniaaGreatDoor.NameOk Go.Proofs.YtkfibepejlgniaaGreatDoor.TextR Go.Proofs.YtkfibepejlgniaaGreatDoor.RecOk Go.Proofs.YtkfibepejlgniaaGreatDoor.WireMath Go.Proofs.YtkfibepejlgniaaGreatDoor.WireGood Go.Proofs.YtkfibepejlgniaaGreatDoor.WalkSpec Go.Proofs.YtkfibepejlgniaaGreatDoor.Get Go.Proofs.YtkfibepejlgniaaGreatDoor.Label Go.Proofs.YtkfibepejlgniaaGreatDoor.FieldMath Go.Proofs.YtkfibepejlgniaaGreatDoor.FieldRd Go.Proofs.YtkfibepejlgniaaGreatDoor.ResR Go.Proofs.YtkfibepejlgniaaGreatDoor.GetI Go.Proofs.YtkfibepejlgniaaGreatDoor.GetSA

set_option maxRecDepth 100000 in
set_option maxHeartbeats 2000000 in
theorem data_16 (A : Option Addr) (n c : Nat) (l : List UInt8) (k q : Int) (w : World) (hs : Sl w w.heap.size A n l) (hnc : n ≤ c) (hn : n ≤ 400000000) (h : 0 ≤ q ∧ q ≤ 255) (hk : ¬ (k < 0 ∨ (n : Int) - q < k)) :
    Calls Tryz.prog 174 #[.slice A n c, .int .i64 k, .int .i64 q, .int .i64 16] w fun e w' => e = .returned (val2 (gd l k q 16)) ∧ Below w.heap.size w w' := by
  have hl := hs.1
  have HI : Hid (decide ((0 : Int) ≤ q ∧ q ≤ 255) = true) := decide_eq_true h
  have HY : Hid (Types.ty 16 = true) := rfl
  have HX := Lib.hid (gd_16 h (by rw [hl]; exact hk))
  obtain ⟨h0, h1⟩ := h
  have hk0 : ¬ k < 0 := by omega
  have hk1 : ¬ (n : Int) - q < k := by omega
  obtain ⟨k', rfl⟩ := Int.eq_ofNat_of_zero_le (show 0 ≤ k by omega)
  obtain ⟨q', rfl⟩ := Int.eq_ofNat_of_zero_le h0
  generalize gd l (k' : Int) (q' : Int) 16 = X at *
  clear hk
  by_cases hq : q' < 1
  · have hq2 : (q' : Int) < 1 := by omega
    have HX2 : Hid (X = (2, zr)) := HX.out.trans (if_neg (fun e => by omega))
    clear HX hs hl
    go_enter Tryz.func174, Tryz.ntmps174
    go_wp2_with fail
    refine (l1In_any _ _ _ _).mono ?_
    rw [HI.out]
    rintro e w1 ⟨rfl, rfl⟩
    go_wp2_with fail
    refine (Types.spec_ok _ _).mono ?_
    rw [HY.out]
    rintro e w1 ⟨rfl, rfl⟩
    go_wp2
    refine bodyPost_ret (v := val2 (2, zr)) (res2 rfl ((box_a w).alloc _) rfl rfl) rfl ⟨by rw [HX2.out], low_c w 16⟩
  · have hq2 : ¬ (q' : Int) < 1 := by omega
    have hkl : k' < l.length := by omega
    have hkn : k' < n := by omega
    have HX2 : Hid (X = if (l[k'].toNat : Int) = (q' : Int) - 1 ∧ txo (piece l k' (q' - 1)) = true then (0, rT (piece l k' (q' - 1))) else (2, zr)) := by
      show _ = _
      rw [HX.out, ReadI.bt_at l k' hkl, Int.toNat_natCast, show ((q' : Int) - 1).toNat = q' - 1 by omega]
      by_cases hb : (l[k'].toNat : Int) = (q' : Int) - 1
      · by_cases ht : txo (piece l k' (q' - 1)) = true
        · rw [if_pos ⟨by omega, hb, ht⟩, if_pos ⟨hb, ht⟩]
        · rw [if_neg (fun e => ht e.2.2), if_neg (fun e => ht e.2)]
      · rw [if_neg (fun e => hb e.2.1), if_neg (fun e => hb e.1)]
    obtain ⟨b, off, rfl, hbB, hcs⟩ := hs.2 (by omega)
    have hx : w.cell? ⟨b, off + k', none⟩ = some (.int .u8 (l[k'].toNat : Int)) := hcs k' hkl
    have hx2 : (((w.alloc (.cells #[.string ⟨#[]⟩, .int .i64 0, .int .i64 0, .int .i64 0, .string ⟨#[]⟩, .string ⟨#[]⟩] 117)).alloc (.cells #[.string ⟨#[]⟩, .int .i64 0, .int .i64 0, .int .i64 0, .string ⟨#[]⟩, .string ⟨#[]⟩] 117)).alloc (.cells #[.string ⟨#[]⟩, .int .i64 16, .int .i64 0, .int .i64 0, .string ⟨#[]⟩, .string ⟨#[]⟩] 117)).cell? ⟨b, off + k', none⟩ = some (.int .u8 (l[k'].toNat : Int)) := ((low_c w 16).cell (p := ⟨b, off + k', none⟩) hbB).trans hx
    have hb1 : l[k'].toNat < 256 := l[k'].toNat_lt
    have HS := Lib.hid ((hs.below (low_c w 16)).wider (low_c w 16).size)
    clear HX hs hcs hl hx
    generalize l[k'].toNat = m at *
    by_cases hm : (m : Int) = (q' : Int) - 1
    · have hm2 : ((m : Int) != (q' : Int) - 1) = false := by simp [hm]
      obtain rfl : q' = m + 1 := by omega
      have hin : k' + 1 + m ≤ n := by omega
      have HI : Hid (decide ((0 : Int) ≤ (m : Int) + 1 ∧ (m : Int) + 1 ≤ 255) = true) := decide_eq_true (by omega)
      have hps := piece_le l k' m
      have HX3 : Hid (X = if txo (piece l k' m) = true then (0, rT (piece l k' m)) else (2, zr)) := by
        show _ = _
        rw [HX2.out, show m + 1 - 1 = m by omega]
        by_cases ht : txo (piece l k' m) = true
        · rw [if_pos ⟨by omega, ht⟩, if_pos ht]
        · rw [if_neg (fun e => ht e.2), if_neg ht]
      clear HX2 hm
      have hck := Classical.em (c = k' + 1)
      rcases hck with hck | hck
      · obtain rfl : m = 0 := by omega
        have hcv := fun A cap => conv_none (w := ((w.alloc (.cells #[.string ⟨#[]⟩, .int .i64 0, .int .i64 0, .int .i64 0, .string ⟨#[]⟩, .string ⟨#[]⟩] 117)).alloc (.cells #[.string ⟨#[]⟩, .int .i64 0, .int .i64 0, .int .i64 0, .string ⟨#[]⟩, .string ⟨#[]⟩] 117)).alloc (.cells #[.string ⟨#[]⟩, .int .i64 16, .int .i64 0, .int .i64 0, .string ⟨#[]⟩, .string ⟨#[]⟩] 117)) A cap l k'
        generalize piece l k' 0 = T at *
        obtain ⟨u, hu⟩ : ∃ u, txo T = u := ⟨_, rfl⟩
        have HU := Lib.hid hu
        rw [hu] at HX3
        clear hu
        go_enter Tryz.func174, Tryz.ntmps174
        go_wp2_with fail
        refine (l1In_any _ _ _ _).mono ?_
        rw [show (decide ((0 : Int) ≤ 1 ∧ (1 : Int) ≤ 255)) = true from by decide]
        rintro e w1 ⟨rfl, rfl⟩
        go_wp2_with fail
        refine (Types.spec_ok _ _).mono ?_
        rw [HY.out]
        rintro e w1 ⟨rfl, rfl⟩
        go_wp2_with fail
        refine (TextR.spec T _ (by omega)).mono ?_
        rw [HU.out]
        rintro e w1 ⟨rfl, rfl⟩
        cases u
        · go_wp2
          refine bodyPost_ret (v := val2 (2, zr)) (res2 rfl ((box_a w).alloc _) rfl rfl) rfl ⟨by rw [HX3.out]; rfl, (low_b w).alloc (by first | (simp; done) | (simp; omega)) _⟩
        · go_wp2
          refine bodyPost_ret (v := val2 (0, rT T)) (res2 rfl (((show Bk _ w.heap.size 117 (rc (rT T)) from heap_alloc_new w _).alloc _).alloc _) rfl rfl) rfl ⟨by rw [HX3.out]; rfl, (((Below.refl _ _).alloc (Nat.le_refl _) _).alloc (by simp) _).alloc (by first | (simp; done) | (simp; omega)) _⟩
      · have hcv : ∀ cap, (convert 22 9 (.slice (some ⟨b, off + (k' + 1), none⟩) (k' + (m + 1) - (k' + 1)) cap)).run Tryz.prog _ = .ok (.string (piece l k' m)) _ := fun cap => by rw [show k' + (m + 1) - (k' + 1) = m by omega]; exact conv_piece HS.out k' m cap hin
        generalize piece l k' m = T at *
        obtain ⟨u, hu⟩ : ∃ u, txo T = u := ⟨_, rfl⟩
        have HU := Lib.hid hu
        rw [hu] at HX3
        clear hu
        go_enter Tryz.func174, Tryz.ntmps174
        go_wp2_with fail
        refine (l1In_any _ _ _ _).mono ?_
        rw [HI.out]
        rintro e w1 ⟨rfl, rfl⟩
        go_wp2_with fail
        refine (Types.spec_ok _ _).mono ?_
        rw [HY.out]
        rintro e w1 ⟨rfl, rfl⟩
        go_wp2_with fail
        refine (TextR.spec T _ (by omega)).mono ?_
        rw [HU.out]
        rintro e w1 ⟨rfl, rfl⟩
        cases u
        · go_wp2
          refine bodyPost_ret (v := val2 (2, zr)) (res2 rfl ((box_a w).alloc _) rfl rfl) rfl ⟨by rw [HX3.out]; rfl, (low_b w).alloc (by first | (simp; done) | (simp; omega)) _⟩
        · go_wp2
          refine bodyPost_ret (v := val2 (0, rT T)) (res2 rfl (((show Bk _ w.heap.size 117 (rc (rT T)) from heap_alloc_new w _).alloc _).alloc _) rfl rfl) rfl ⟨by rw [HX3.out]; rfl, (((Below.refl _ _).alloc (Nat.le_refl _) _).alloc (by simp) _).alloc (by first | (simp; done) | (simp; omega)) _⟩
    · have hm2 : ((m : Int) != (q' : Int) - 1) = true := by simpa using hm
      have HX3 : Hid (X = (2, zr)) := HX2.out.trans (if_neg (fun e => hm e.1))
      clear HX2 hm
      go_enter Tryz.func174, Tryz.ntmps174
      go_wp2_with fail
      refine (l1In_any _ _ _ _).mono ?_
      rw [HI.out]
      rintro e w1 ⟨rfl, rfl⟩
      go_wp2_with fail
      refine (Types.spec_ok _ _).mono ?_
      rw [HY.out]
      rintro e w1 ⟨rfl, rfl⟩
      go_wp2
      refine bodyPost_ret (v := val2 (2, zr)) (res2 rfl ((box_a w).alloc _) rfl rfl) rfl ⟨by rw [HX3.out], low_c w 16⟩

end Go.Proofs.YtkfibepejlgniaaGreatDoor.GetSC

/- What the model's GetData does, of one type each: as GetSA tells. -/
namespace Go.Proofs.YtkfibepejlgniaaGreatDoor.GetSD
open Go.RowKit Go.Proofs.YtkfibepejlgniaaGreatDoor.Mem Go.Proofs.YtkfibepejlgniaaGreatDoor.MemR Go.Proofs.YtkfibepejlgniaaGreatDoor.JoinSpec Go.Proofs.YtkfibepejlgniaaGreatDoor.GetLabel Go.Proofs.YtkfibepejlgniaaGreatDoor.BoxR Go.Proofs.YtkfibepejlgniaaGreatDoor.NameOk Go.Proofs.YtkfibepejlgniaaGreatDoor.TextR Go.Proofs.YtkfibepejlgniaaGreatDoor.RecOk Go.Proofs.YtkfibepejlgniaaGreatDoor.WireMath Go.Proofs.YtkfibepejlgniaaGreatDoor.WireGood Go.Proofs.YtkfibepejlgniaaGreatDoor.WalkSpec Go.Proofs.YtkfibepejlgniaaGreatDoor.Get Go.Proofs.YtkfibepejlgniaaGreatDoor.Label Go.Proofs.YtkfibepejlgniaaGreatDoor.FieldMath Go.Proofs.YtkfibepejlgniaaGreatDoor.FieldRd Go.Proofs.YtkfibepejlgniaaGreatDoor.ResR Go.Proofs.YtkfibepejlgniaaGreatDoor.GetI Go.Proofs.YtkfibepejlgniaaGreatDoor.GetSA

set_option maxRecDepth 100000 in
set_option maxHeartbeats 2000000 in
theorem data_6 (A : Option Addr) (n c : Nat) (l : List UInt8) (k q : Int) (w : World) (hs : Sl w w.heap.size A n l) (hnc : n ≤ c) (hn : n ≤ 400000000) (h : 0 ≤ q ∧ q ≤ 255) (hk : ¬ (k < 0 ∨ (n : Int) - q < k)) :
    Calls Tryz.prog 174 #[.slice A n c, .int .i64 k, .int .i64 q, .int .i64 6] w fun e w' => e = .returned (val2 (gd l k q 6)) ∧ Below w.heap.size w w' := by
  have hl := hs.1
  have HI : Hid (decide ((0 : Int) ≤ q ∧ q ≤ 255) = true) := decide_eq_true h
  have HY : Hid (Types.ty 6 = true) := rfl
  have HX := Lib.hid (gd_6 h (by rw [hl]; exact hk))
  have GN := Lib.hid (fun W (hW : Below w.heap.size w W) => WalkSpec.getName A n c l k W _ rfl ((hs.below hW).wider hW.size) hn hnc)
  have G4 := Lib.hid (fun (q : Int) (W : World) (hW : Below w.heap.size w W) => get4 A n c l q W _ (hs.below hW) hn)
  have HIN := Lib.hid (fun q => n4_in (l := l) (k := q))
  have HL := Lib.hid hl
  generalize gd l k q 6 = X at *
  generalize rn l [] k k 0 (-1) = R at *
  obtain ⟨c0, L, p, j⟩ := R
  unfold val3 at GN
  dsimp only at GN HX
  generalize Jo L = s at *
  clear hs hl
  obtain ⟨h0, h1⟩ := h
  have hk0 : ¬ k < 0 := by omega
  have hk1 : ¬ (n : Int) - q < k := by omega
  clear hk
  go_enter Tryz.func174, Tryz.ntmps174
  go_wp2_with fail
  refine (l1In_any _ _ _ _).mono ?_
  rw [HI.out]
  rintro e w1 ⟨rfl, rfl⟩
  go_wp2_with fail
  refine (Types.spec_ok _ _).mono ?_
  rw [HY.out]
  rintro e w1 ⟨rfl, rfl⟩
  go_wp2_with fail
  refine (GN.out _ (low_c w 6)).mono ?_
  rintro e w1 ⟨rfl, hl⟩
  have L1 := Lib.hid ((low_c w 6).trans (hl.mono (low_c w 6).size))
  have Z1 := Lib.hid (Bk.below ((box_a w).alloc _) hl (by first | (simp; done) | (simp; omega)))
  have N1 := Lib.hid (Bk.below ((box_b w).alloc _) hl (by first | (simp; done) | (simp; omega)))
  have X1 := Lib.hid (Bk.below (box_c w 6) hl (box_c w 6).lt)
  clear hl GN
  obtain ⟨z0, z1, z2, z3, z4, z5⟩ := bx_of Z1.out
  obtain ⟨n0, n1, n2, n3, n4, n5⟩ := bx_of N1.out
  obtain ⟨x0, x1, x2, x3, x4, x5⟩ := bx_of X1.out
  have f0 := Z1.out.free 0
  have f1 := Z1.out.free 1
  have f2 := Z1.out.free 2
  have f3 := Z1.out.free 3
  have f4 := Z1.out.free 4
  have f5 := Z1.out.free 5
  have e3 := X1.out.free 3
  have e4 := X1.out.free 4
  have e5 := X1.out.free 5
  by_cases hc : c0 = 0
  · subst hc
    have HX2 := Lib.hid (HX.out.trans (if_neg (fun e => e rfl)))
    clear HX
    have Z2 := Lib.hid (Z1.out.other (p := ⟨w.heap.size + 1 + 1, 4, none⟩) (by show w.heap.size ≠ w.heap.size + 1 + 1; omega) (.string s))
    have N2 := Lib.hid (N1.out.other (p := ⟨w.heap.size + 1 + 1, 4, none⟩) (by show w.heap.size + 1 ≠ w.heap.size + 1 + 1; omega) (.string s))
    have X2 : Hid (Bk (w1.setCell ⟨w.heap.size + 1 + 1, 4, none⟩ (.string s)) (w.heap.size + 1 + 1) 117 (rc (rH 6 s))) := X1.out.set 4 (.string s)
    have L2 := Lib.hid (L1.out.setCell (p := ⟨w.heap.size + 1 + 1, 4, none⟩) (by show w.heap.size ≤ w.heap.size + 1 + 1; omega) (.string s))
    have G5 := Lib.hid (G4.out p (w1.setCell ⟨w.heap.size + 1 + 1, 4, none⟩ (.string s)) L2.out)
    have HIN5 := Lib.hid (HIN.out p)
    clear G4 HIN
    generalize FieldMath.n4 l p = y at *
    obtain ⟨x, b⟩ := y
    go_wp2_with fail
    refine G5.out.mono ?_
    rintro e w2 ⟨rfl, hl⟩
    have L3 := Lib.hid (L2.out.trans (hl.mono L2.out.size))
    have Z3 := Lib.hid (Z2.out.below hl Z2.out.lt)
    have N3 := Lib.hid (N2.out.below hl N2.out.lt)
    have X3 := Lib.hid (X2.out.below hl X2.out.lt)
    clear hl L2 Z2 N2 X2 L1 Z1 N1 X1 G5 z0 z1 z2 z3 z4 z5 n0 n1 n2 n3 n4 n5 x0 x1 x2 x3 x4 x5 f0 f1 f2 f3 f4 f5 e3 e4 e5
    obtain ⟨z0, z1, z2, z3, z4, z5⟩ := bx_of Z3.out
    obtain ⟨n0, n1, n2, n3, n4, n5⟩ := bx_of N3.out
    obtain ⟨x0, x1, x2, x3, x4, x5⟩ := bx_of X3.out
    have f0 := Z3.out.free 0
    have f1 := Z3.out.free 1
    have f2 := Z3.out.free 2
    have f3 := Z3.out.free 3
    have f4 := Z3.out.free 4
    have f5 := Z3.out.free 5
    have e3 := X3.out.free 3
    have e4 := X3.out.free 4
    have e5 := X3.out.free 5
    have Z4 := Lib.hid (Z3.out.other (p := ⟨w.heap.size + 1 + 1, 3, none⟩) (by show w.heap.size ≠ w.heap.size + 1 + 1; omega) (.int .i64 x))
    have L4 := Lib.hid (L3.out.setCell (p := ⟨w.heap.size + 1 + 1, 3, none⟩) (by show w.heap.size ≤ w.heap.size + 1 + 1; omega) (.int .i64 x))
    cases b
    · have HX3 : Hid (X = (2, zr)) := HX2.out.trans (if_neg (fun e => by simp at e))
      clear HX2
      go_wp2
      refine bodyPost_ret (v := val2 (2, zr)) (res2 rfl (fil_bk Z3.out zr) rfl rfl) rfl ⟨by rw [HX3.out], fil_below L3.out (Nat.le_refl _) zr⟩
    · obtain ⟨i0, i1⟩ := HIN5.out rfl
      rw [HL.out] at i1
      by_cases hq : p + 4 = k + q
      · have hq2 : (p + 4 != k + q) = false := by simp [hq]
        have HX3 : Hid (X = (0, rS s x)) := HX2.out.trans (if_pos ⟨rfl, hq⟩)
        clear HX2 hq
        go_wp2
        refine bodyPost_ret (v := val2 (0, rS s x)) (res2 rfl (fil_bk Z4.out (rS s x)) rfl rfl) rfl ⟨by rw [HX3.out], fil_below L4.out (Nat.le_refl _) (rS s x)⟩
      · have hq2 : (p + 4 != k + q) = true := by simpa using hq
        have HX3 : Hid (X = (2, zr)) := HX2.out.trans (if_neg (fun e => hq e.2))
        clear HX2 hq
        go_wp2
        refine bodyPost_ret (v := val2 (2, zr)) (res2 rfl (fil_bk Z4.out zr) rfl rfl) rfl ⟨by rw [HX3.out], fil_below L4.out (Nat.le_refl _) zr⟩
  · have HX2 := Lib.hid (HX.out.trans (if_pos hc))
    have hc2 : ((c0 : Int) != 0) = true := by simp; omega
    clear HX
    go_wp2
    refine bodyPost_ret (v := val2 (c0, zr)) (res2 rfl (fil_bk Z1.out zr) rfl rfl) rfl ⟨by rw [HX2.out], fil_below L1.out (Nat.le_refl _) zr⟩

end Go.Proofs.YtkfibepejlgniaaGreatDoor.GetSD

/- What the model's GetData and GetRecord do: they read as FieldMath tells (gd, gr), and turn nothing that was there. Condition: at most 400000000 bytes. -/
namespace Go.Proofs.YtkfibepejlgniaaGreatDoor.GetRecS
open Go.RowKit Go.Proofs.YtkfibepejlgniaaGreatDoor.Mem Go.Proofs.YtkfibepejlgniaaGreatDoor.MemR Go.Proofs.YtkfibepejlgniaaGreatDoor.JoinSpec Go.Proofs.YtkfibepejlgniaaGreatDoor.BoxR Go.Proofs.YtkfibepejlgniaaGreatDoor.NameOk Go.Proofs.YtkfibepejlgniaaGreatDoor.TextR Go.Proofs.YtkfibepejlgniaaGreatDoor.RecOk Go.Proofs.YtkfibepejlgniaaGreatDoor.WireMath Go.Proofs.YtkfibepejlgniaaGreatDoor.WireGood Go.Proofs.YtkfibepejlgniaaGreatDoor.WalkSpec Go.Proofs.YtkfibepejlgniaaGreatDoor.FieldMath Go.Proofs.YtkfibepejlgniaaGreatDoor.FieldRd Go.Proofs.YtkfibepejlgniaaGreatDoor.ResR Go.Proofs.YtkfibepejlgniaaGreatDoor.GetI Go.Proofs.YtkfibepejlgniaaGreatDoor.GetSA Go.Proofs.YtkfibepejlgniaaGreatDoor.GetRecI

theorem data (A : Option Addr) (n c : Nat) (l : List UInt8) (k q ty : Int) (w : World) (hs : Sl w w.heap.size A n l) (hnc : n ≤ c) (hn : n ≤ 400000000) :
    Calls Tryz.prog 174 #[.slice A n c, .int .i64 k, .int .i64 q, .int .i64 ty] w fun e w' => e = .returned (val2 (gd l k q ty)) ∧ Below w.heap.size w w' := by
  by_cases h : 0 ≤ q ∧ q ≤ 255
  · by_cases ht : ty = 1 ∨ ty = 2 ∨ ty = 5 ∨ ty = 6 ∨ ty = 16
    · by_cases hk : k < 0 ∨ (n : Int) - q < k
      · exact data_o A n c l k q ty w hs hn h ht hk
      · rcases ht with rfl | rfl | rfl | rfl | rfl
        · exact data_1 A n c l k q w hs hn h hk
        · exact GetSB.data_2 A n c l k q w hs hnc hn h hk
        · exact GetSB.data_5 A n c l k q w hs hnc hn h hk
        · exact GetSD.data_6 A n c l k q w hs hnc hn h hk
        · exact GetSC.data_16 A n c l k q w hs hnc hn h hk
    · exact data_t A n c l k q ty w hs hn h ht
  · exact data_n A n c l k q ty w h
/-- What GetData gives is not long, if it succeeds. -/
theorem gd_small {l : List UInt8} {k n ty : Int} {r : Rec} (h : gd l k n ty = (0, r)) : DataS.Med r := by
  unfold gd at h
  have hz : DataS.Med zr := ⟨by decide, by decide, by decide⟩
  split at h
  · simp at h
  · split at h
    · simp at h
    · split at h
      · split at h
        · simp only [Prod.mk.injEq, true_and] at h
          rw [← h]
          exact ⟨by show (0 : Nat) ≤ _; omega, by show (0 : Nat) ≤ _; omega, by show (0 : Nat) ≤ _; omega⟩
        · simp at h
      · split at h
        · split at h
          · rename_i hn _ _ _ hp
            simp only [Prod.mk.injEq, true_and] at h
            rw [← h]
            have hp := piece_le l k.toNat (n - 1).toNat
            exact ⟨by show (0 : Nat) ≤ _; omega, by show (0 : Nat) ≤ _; omega, by show (GetLabel.piece l k.toNat (n - 1).toNat).size ≤ _; omega⟩
          · simp at h
        · split at h
          · split at h
            · rename_i hc
              simp only [Prod.mk.injEq] at h
              exact absurd h.1 hc
            · rename_i hc
              split at h
              · simp only [Prod.mk.injEq, true_and] at h
                rw [← h]
                exact ⟨by show (0 : Nat) ≤ _; omega, Nat.le_trans (name_le (Decidable.byContradiction hc)) (by decide), by show (0 : Nat) ≤ _; omega⟩
              · simp at h
          · split at h
            · split at h
              · rename_i hc
                simp only [Prod.mk.injEq] at h
                exact absurd h.1 hc
              · rename_i hc
                split at h
                · simp only [Prod.mk.injEq, true_and] at h
                  rw [← h]
                  exact ⟨by show (0 : Nat) ≤ _; omega, Nat.le_trans (name_le (Decidable.byContradiction hc)) (by decide), by show (0 : Nat) ≤ _; omega⟩
                · simp at h
            · simp at h
/-- The record's answer, told of what the model's GetData gave. -/
theorem gr_of {l : List UInt8} {k : Int} {L : List ByteArray} {p : Int} {j c : Nat} {r : Rec} (h : rn l [] k k 0 (-1) = (0, L, p, j)) (hp : ¬ (l.length : Int) - 10 < p) (hd : gd l (p + 10) (FieldMath.n2 l (p + 8)).1 (FieldMath.n2 l p).1 = (c, r)) :
    gr l k = if c ≠ 0 then (c, 0, zr) else if (FieldMath.n4 l (p + 4)).2 = true ∧ (FieldMath.n2 l (p + 2)).1 = 1 ∧ rok (wn r (Jo L) (FieldMath.n4 l (p + 4)).1) = true then (0, p + 10 + (FieldMath.n2 l (p + 8)).1, wn r (Jo L) (FieldMath.n4 l (p + 4)).1) else (2, 0, zr) := by
  by_cases hc : c ≠ 0
  · rw [if_pos hc]
    exact gr_data h hp hd hc
  · have hc0 : c = 0 := Decidable.byContradiction hc
    subst hc0
    rw [if_neg hc]
    split
    · rename_i hg
      exact gr_good h hp hd hg
    · rename_i hg
      exact gr_form h hp hd hg

set_option maxRecDepth 100000 in
set_option maxHeartbeats 4000000 in
theorem record (A : Option Addr) (n c : Nat) (l : List UInt8) (k : Int) (w : World) (hs : Sl w w.heap.size A n l) (hnc : n ≤ c) (hn : n ≤ 400000000) :
    Calls Tryz.prog 145 #[.slice A n c, .int .i64 k] w fun e w' => e = .returned (valR (gr l k)) ∧ Below w.heap.size w w' := by
  have hl := hs.1
  have GN := Lib.hid (fun W (hW : Below w.heap.size w W) => WalkSpec.getName A n c l k W _ rfl ((hs.below hW).wider hW.size) hn hnc)
  generalize hR : rn l [] k k 0 (-1) = R at *
  obtain ⟨c0, L, p, j⟩ := R
  unfold val3 at GN
  dsimp only at GN
  by_cases hc : c0 = 0
  · subst hc
    have HF := rn_from hR
    obtain ⟨_, _, hp1, hp2, _⟩ := rn_good hR
    have hp0 : 0 ≤ p := by omega
    rw [hl] at hp2
    clear hp1 HF
    by_cases hs10 : (n : Int) - 10 < p
    · have HX := Lib.hid (gr_short hR (by rw [hl]; exact hs10))
      generalize gr l k = X at *
      generalize Jo L = s at *
      clear hs hl hR
      go_enter Tryz.func145, Tryz.ntmps145
      go_wp2_with fail
      refine (GN.out _ (low_b w)).mono ?_
      rintro e w1 ⟨rfl, hl⟩
      have L1 := Lib.hid ((low_b w).trans (hl.mono (low_b w).size))
      have Z1 := Lib.hid (Bk.below (box_a w) hl (box_a w).lt)
      have N1 := Lib.hid (Bk.below (box_b w) hl (box_b w).lt)
      clear hl
      obtain ⟨z0, z1, z2, z3, z4, z5⟩ := bx_of Z1.out
      obtain ⟨n0, n1, n2, n3, n4, n5⟩ := bx_of N1.out
      have f0 := Z1.out.free 0
      have f1 := Z1.out.free 1
      have f2 := Z1.out.free 2
      have f3 := Z1.out.free 3
      have f4 := Z1.out.free 4
      have f5 := Z1.out.free 5
      go_wp2
      refine bodyPost_ret (v := valR (1, 0, zr)) (res3 rfl (fil_bk Z1.out zr) rfl rfl rfl) rfl ⟨by rw [HX.out], fil_below L1.out (Nat.le_refl _) zr⟩
    · have HG2 := Lib.hid (fun (q : Int) (W : World) (hW : Below w.heap.size w W) => get2 A n c l q W _ (hs.below hW) hn)
      have HG4 := Lib.hid (fun (q : Int) (W : World) (hW : Below w.heap.size w W) => get4 A n c l q W _ (hs.below hW) hn)
      have HGD := Lib.hid (fun (q m t : Int) (W : World) (hW : Below w.heap.size w W) => data A n c l q m t W ((hs.below hW).wider hW.size) hnc hn)
      generalize hD : gd l (p + 10) (FieldMath.n2 l (p + 8)).1 (FieldMath.n2 l p).1 = D at *
      obtain ⟨dc, yr⟩ := D
      have HX := Lib.hid (gr_of hR (by rw [hl]; exact hs10) hD)
      have HM := Lib.hid (fun (e : dc = 0) => gd_small (r := yr) (by rw [hD, e]))
      have HNL : Hid ((Jo L).size ≤ 50) := (Plain.nm_parts (rn_good hR).2.1).1
      have h1 := (n2_in (l := l) (k := p) hp0 (by omega)).2
      have h2 := (n2_in (l := l) (k := p + 2) (by omega) (by omega)).2
      have h8 := (n2_in (l := l) (k := p + 8) (by omega) (by omega)).2
      have hG1 := HG2.out p
      have hG2 := HG2.out (p + 2)
      have hG8 := HG2.out (p + 8)
      have hG4 := HG4.out (p + 4)
      have hGD := HGD.out (p + 10) (FieldMath.n2 l (p + 8)).1 (FieldMath.n2 l p).1
      rw [hD] at hGD
      generalize gr l k = X at *
      generalize Jo L = s at *
      clear hD
      generalize FieldMath.n2 l p = y1 at *
      generalize FieldMath.n2 l (p + 2) = y2 at *
      generalize FieldMath.n2 l (p + 8) = y8 at *
      generalize FieldMath.n4 l (p + 4) = y4 at *
      obtain ⟨ty, b1⟩ := y1
      obtain ⟨cl, b2⟩ := y2
      obtain ⟨q, b8⟩ := y8
      obtain ⟨tt, b4⟩ := y4
      dsimp only at h1 h2 h8 hG1 hG2 hG8 hG4 hGD HX
      obtain ⟨h10, h11⟩ := h1
      obtain ⟨h20, h21⟩ := h2
      obtain ⟨h80, h81⟩ := h8
      have G1 := Lib.hid hG1
      have G2 := Lib.hid hG2
      have G8 := Lib.hid hG8
      have G4 := Lib.hid hG4
      have GD := Lib.hid hGD
      clear hG1 hG2 hG8 hG4 hGD HG2 HG4 HGD hs hl hR
      go_enter Tryz.func145, Tryz.ntmps145
      go_wp2_with fail
      refine (GN.out _ (low_b w)).mono ?_
      rintro e w1 ⟨rfl, hl⟩
      have L1 := Lib.hid ((low_b w).trans (hl.mono (low_b w).size))
      have Z1 := Lib.hid (Bk.below (box_a w) hl (box_a w).lt)
      have N1 := Lib.hid (Bk.below (box_b w) hl (box_b w).lt)
      clear hl
      go_wp2_with fail
      refine (G1.out _ L1.out).mono ?_
      rintro e w2 ⟨rfl, hl⟩
      have L2 := Lib.hid (L1.out.trans (hl.mono L1.out.size))
      have Z2 := Lib.hid (Z1.out.below hl Z1.out.lt)
      have N2 := Lib.hid (N1.out.below hl N1.out.lt)
      clear hl L1 Z1 N1
      go_wp2_with fail
      refine (G2.out _ L2.out).mono ?_
      rintro e w3 ⟨rfl, hl⟩
      have L3 := Lib.hid (L2.out.trans (hl.mono L2.out.size))
      have Z3 := Lib.hid (Z2.out.below hl Z2.out.lt)
      have N3 := Lib.hid (N2.out.below hl N2.out.lt)
      clear hl L2 Z2 N2
      go_wp2_with fail
      refine (G4.out _ L3.out).mono ?_
      rintro e w4 ⟨rfl, hl⟩
      have L4 := Lib.hid (L3.out.trans (hl.mono L3.out.size))
      have Z4 := Lib.hid (Z3.out.below hl Z3.out.lt)
      have N4 := Lib.hid (N3.out.below hl N3.out.lt)
      clear hl L3 Z3 N3
      go_wp2_with fail
      refine (G8.out _ L4.out).mono ?_
      rintro e w5 ⟨rfl, hl⟩
      have L5 := Lib.hid (L4.out.trans (hl.mono L4.out.size))
      have Z5 := Lib.hid (Z4.out.below hl Z4.out.lt)
      have N5 := Lib.hid (N4.out.below hl N4.out.lt)
      clear hl L4 Z4 N4
      go_wp2_with fail
      refine (GD.out _ L5.out).mono ?_
      rintro e w6 ⟨rfl, hl⟩
      have L6 := Lib.hid (L5.out.trans (hl.mono L5.out.size))
      have Z6 := Lib.hid (Z5.out.below hl Z5.out.lt)
      have N6 := Lib.hid (N5.out.below hl N5.out.lt)
      clear hl L5 Z5 N5
      clear G1 G2 G4 G8 GD GN
      unfold val2
      dsimp only
      by_cases hdc : dc = 0
      · subst hdc
        have HX2 := Lib.hid (HX.out.trans (if_neg (fun e => e rfl)))
        have hmed := HM.out rfl
        have RO := Lib.hid (fun W => RecOk.spec (wn yr s tt) W (show Mod (wn yr s tt) from ⟨Nat.le_trans HNL.out (by decide), (hmed.mod).2.1, (hmed.mod).2.2⟩))
        unfold wn at RO
        dsimp only at RO
        have L7 := Lib.hid (L6.out.alloc L6.out.size (.cells #[.string s, .int .i64 yr.ty, .int .i64 tt, .int .i64 yr.n, .string yr.host, .string yr.text] 117))
        have Z7 := Lib.hid (Z6.out.alloc (.cells #[.string s, .int .i64 yr.ty, .int .i64 tt, .int .i64 yr.n, .string yr.host, .string yr.text] 117))
        have N7 := Lib.hid (N6.out.alloc (.cells #[.string s, .int .i64 yr.ty, .int .i64 tt, .int .i64 yr.n, .string yr.host, .string yr.text] 117))
        have X7 := Lib.hid (bx_new w6 117 (wn yr s tt))
        clear HX HM hmed
        obtain ⟨z0, z1, z2, z3, z4, z5⟩ := bx_of Z7.out
        obtain ⟨n0, n1, n2, n3, n4, n5⟩ := bx_of N7.out
        have f0 := Z7.out.free 0
        have f1 := Z7.out.free 1
        have f2 := Z7.out.free 2
        have f3 := Z7.out.free 3
        have f4 := Z7.out.free 4
        have f5 := Z7.out.free 5
        cases b4
        · have HX3 : Hid (X = (2, 0, zr)) := HX2.out.trans (if_neg (fun e => by simp at e))
          clear HX2
          go_wp2
          refine bodyPost_ret (v := valR (2, 0, zr)) (res3 rfl (fil_bk Z7.out zr) rfl rfl rfl) rfl ⟨by rw [HX3.out], fil_below L7.out (Nat.le_refl _) zr⟩
        · by_cases hcl : cl = 1
          · have hcl2 : (cl != 1) = false := by simp [hcl]
            obtain ⟨u, hu⟩ : ∃ u, rok (wn yr s tt) = u := ⟨_, rfl⟩
            have HU := Lib.hid hu
            have HX3 : Hid (X = if u = true then (0, p + 10 + q, wn yr s tt) else (2, 0, zr)) := by
              show _ = _
              rw [HX2.out, hu]
              cases u <;> simp [hcl]
            clear hu HX2 hcl
            go_wp2_with fail
            refine (RO.out _).mono ?_
            rw [show rok ⟨s, yr.ty, tt, yr.n, yr.host, yr.text⟩ = u from HU.out]
            rintro e w8 ⟨rfl, hl⟩
            have L8 := Lib.hid (L7.out.trans (hl.mono L7.out.size))
            have Z8 := Lib.hid (Z7.out.below hl Z7.out.lt)
            have N8 := Lib.hid (N7.out.below hl N7.out.lt)
            have X8 := Lib.hid (X7.out.below hl)
            clear hl L7 Z7 N7 X7 z0 z1 z2 z3 z4 z5 n0 n1 n2 n3 n4 n5 f0 f1 f2 f3 f4 f5
            obtain ⟨z0, z1, z2, z3, z4, z5⟩ := bx_of Z8.out
            obtain ⟨n0, n1, n2, n3, n4, n5⟩ := bx_of N8.out
            have f0 := Z8.out.free 0
            have f1 := Z8.out.free 1
            have f2 := Z8.out.free 2
            have f3 := Z8.out.free 3
            have f4 := Z8.out.free 4
            have f5 := Z8.out.free 5
            cases u
            · go_wp2
              refine bodyPost_ret (v := valR (2, 0, zr)) (res3 rfl (fil_bk Z8.out zr) rfl rfl rfl) rfl ⟨by rw [HX3.out]; rfl, fil_below L8.out (Nat.le_refl _) zr⟩
            · obtain ⟨x0, x1, x2, x3, x4, x5⟩ := X8.out
              have x0 : w8.cell? ⟨w6.heap.size, 0, none⟩ = some (.string s) := x0
              have x1 : w8.cell? ⟨w6.heap.size, 1, none⟩ = some (.int .i64 yr.ty) := x1
              have x2 : w8.cell? ⟨w6.heap.size, 2, none⟩ = some (.int .i64 tt) := x2
              have x3 : w8.cell? ⟨w6.heap.size, 3, none⟩ = some (.int .i64 yr.n) := x3
              have x4 : w8.cell? ⟨w6.heap.size, 4, none⟩ = some (.string yr.host) := x4
              have x5 : w8.cell? ⟨w6.heap.size, 5, none⟩ = some (.string yr.text) := x5
              go_wp2
              refine bodyPost_ret (v := valR (0, p + 10 + q, wn yr s tt)) (res3 rfl (fil_bk Z8.out (wn yr s tt)) rfl rfl rfl) rfl ⟨by rw [HX3.out]; rfl, fil_below L8.out (Nat.le_refl _) (wn yr s tt)⟩
          · have hcl2 : (cl != 1) = true := by simpa using hcl
            have HX3 : Hid (X = (2, 0, zr)) := HX2.out.trans (if_neg (fun e => hcl e.2.1))
            clear HX2 hcl
            go_wp2
            refine bodyPost_ret (v := valR (2, 0, zr)) (res3 rfl (fil_bk Z7.out zr) rfl rfl rfl) rfl ⟨by rw [HX3.out], fil_below L7.out (Nat.le_refl _) zr⟩
      · have HX2 := Lib.hid (HX.out.trans (if_pos hdc))
        have hc2 : ((dc : Int) != 0) = true := by simp; omega
        have L7 := Lib.hid (L6.out.alloc L6.out.size (.cells #[.string yr.name, .int .i64 yr.ty, .int .i64 yr.ttl, .int .i64 yr.n, .string yr.host, .string yr.text] 117))
        have Z7 := Lib.hid (Z6.out.alloc (.cells #[.string yr.name, .int .i64 yr.ty, .int .i64 yr.ttl, .int .i64 yr.n, .string yr.host, .string yr.text] 117))
        have N7 := Lib.hid (N6.out.alloc (.cells #[.string yr.name, .int .i64 yr.ty, .int .i64 yr.ttl, .int .i64 yr.n, .string yr.host, .string yr.text] 117))
        clear HX HM
        obtain ⟨z0, z1, z2, z3, z4, z5⟩ := bx_of Z7.out
        obtain ⟨n0, n1, n2, n3, n4, n5⟩ := bx_of N7.out
        have f0 := Z7.out.free 0
        have f1 := Z7.out.free 1
        have f2 := Z7.out.free 2
        have f3 := Z7.out.free 3
        have f4 := Z7.out.free 4
        have f5 := Z7.out.free 5
        go_wp2
        refine bodyPost_ret (v := valR (dc, 0, zr)) (res3 rfl (fil_bk Z7.out zr) rfl rfl rfl) rfl ⟨by rw [HX2.out], fil_below L7.out (Nat.le_refl _) zr⟩
  · have HX := Lib.hid (gr_name hR hc)
    have hc2 : ((c0 : Int) != 0) = true := by simp; omega
    generalize gr l k = X at *
    generalize Jo L = s at *
    clear hs hl hR
    go_enter Tryz.func145, Tryz.ntmps145
    go_wp2_with fail
    refine (GN.out _ (low_b w)).mono ?_
    rintro e w1 ⟨rfl, hl⟩
    have L1 := Lib.hid ((low_b w).trans (hl.mono (low_b w).size))
    have Z1 := Lib.hid (Bk.below (box_a w) hl (box_a w).lt)
    have N1 := Lib.hid (Bk.below (box_b w) hl (box_b w).lt)
    clear hl
    obtain ⟨z0, z1, z2, z3, z4, z5⟩ := bx_of Z1.out
    obtain ⟨n0, n1, n2, n3, n4, n5⟩ := bx_of N1.out
    have f0 := Z1.out.free 0
    have f1 := Z1.out.free 1
    have f2 := Z1.out.free 2
    have f3 := Z1.out.free 3
    have f4 := Z1.out.free 4
    have f5 := Z1.out.free 5
    go_wp2
    refine bodyPost_ret (v := valR (c0, 0, zr)) (res3 rfl (fil_bk Z1.out zr) rfl rfl rfl) rfl ⟨by rw [HX.out], fil_below L1.out (Nat.le_refl _) zr⟩
end Go.Proofs.YtkfibepejlgniaaGreatDoor.GetRecS

/- What GetQuest does in the program and in the model: it reads a question as MsgMath tells (gq), and turns nothing that was there. Conditions: at most 400000000 bytes; for the program: the library's variable internal/bytealg.MaxLen holds an int. -/
namespace Go.Proofs.YtkfibepejlgniaaGreatDoor.GetQ
open Go.RowKit Go.Proofs.YtkfibepejlgniaaGreatDoor.Mem Go.Proofs.YtkfibepejlgniaaGreatDoor.MemR Go.Proofs.YtkfibepejlgniaaGreatDoor.MemM Go.Proofs.YtkfibepejlgniaaGreatDoor.JoinSpec Go.Proofs.YtkfibepejlgniaaGreatDoor.Labels Go.Proofs.YtkfibepejlgniaaGreatDoor.WireMath Go.Proofs.YtkfibepejlgniaaGreatDoor.WireGood Go.Proofs.YtkfibepejlgniaaGreatDoor.WalkSpec Go.Proofs.YtkfibepejlgniaaGreatDoor.FieldMath Go.Proofs.YtkfibepejlgniaaGreatDoor.Get Go.Proofs.YtkfibepejlgniaaGreatDoor.OkM Go.Proofs.YtkfibepejlgniaaGreatDoor.ResQ Go.Proofs.YtkfibepejlgniaaGreatDoor.ResR Go.Proofs.YtkfibepejlgniaaGreatDoor.PartI Go.Proofs.YtkfibepejlgniaaGreatDoor.HeadRd Go.Proofs.YtkfibepejlgniaaGreatDoor.MsgMath Go.Proofs.YtkfibepejlgniaaGreatDoor.GetRecI

/-- What GetQuest hands back. A def, so that no step of a walk opens it. -/
def valQ (X : Nat × Int × ByteArray × Int) : Value := .tuple #[.agg #[.string X.2.2.1, .int .i64 X.2.2.2], .int .i64 X.2.1, .int .i64 (X.1 : Int)]

set_option maxRecDepth 100000 in
set_option maxHeartbeats 4000000 in
theorem impl (A : Option Addr) (n c : Nat) (l : List UInt8) (k : Int) (w : World) (he : Env w) (hs : Sl w w.heap.size A n l) (hnc : n ≤ c) (hn : n ≤ 400000000) :
    Calls Tryz.prog 39 #[.slice A n c, .int .i64 k] w fun e w' => e = .returned (valQ (gq l k)) ∧ Below w.heap.size w w' := by
  have hl := hs.1
  have L0 := Lib.hid ((Below.refl w.heap.size w).alloc (Nat.le_refl _) (.cells #[.string ⟨#[]⟩, .int .i64 0] 25))
  have Z0 : Hid (Bk (w.alloc (.cells #[.string ⟨#[]⟩, .int .i64 0] 25)) w.heap.size 25 (qc ⟨#[]⟩ 0)) := heap_alloc_new w _
  have HS := Lib.hid hs
  have HE := Lib.hid he
  have GN := Lib.hid (fun W (hW : Below w.heap.size w W) => NameGet.getName A n c l k W _ rfl (he.below hW) ((hs.below hW).wider hW.size) hn hnc)
  generalize hR : rn l [] k k 0 (-1) = R at *
  obtain ⟨c0, L, p, j⟩ := R
  unfold val3 at GN
  dsimp only at GN
  by_cases hc : c0 = 0
  · subst hc
    have HF := rn_from hR
    obtain ⟨_, hnm, hp1, hp2, _⟩ := rn_good hR
    have hz : (Jo L).size ≤ 50 := (Plain.nm_parts hnm).1
    have hp0 : 0 ≤ p := by omega
    rw [hl] at hp2
    clear hp1 HF hnm
    by_cases h4 : (n : Int) - 4 < p
    · have HX := Lib.hid (gq_short hR (by rw [hl]; exact h4))
      generalize gq l k = X at *
      generalize Jo L = s at *
      clear hs hl he hR
      go_enter Tryz.func39, Tryz.ntmps39
      go_wp2_with fail
      refine (GN.out _ L0.out).mono ?_
      rintro e w1 ⟨rfl, hl⟩
      have L1 := Lib.hid (L0.out.trans (hl.mono L0.out.size))
      have Z1 := Lib.hid (Z0.out.below hl Z0.out.lt)
      clear hl L0 Z0
      go_wp2_with fail
      refine (part_no A n c 4 p w1 hn (by omega) h4).mono ?_
      rintro e w2 ⟨rfl, rfl⟩
      obtain ⟨z0, z1⟩ := qx_of Z1.out
      have f0 := Z1.out.free 0
      have f1 := Z1.out.free 1
      go_wp2
      exact bodyPost_ret (v := valQ (1, 0, ⟨#[]⟩, 0)) (res3Q rfl (filQ_bk Z1.out ⟨#[]⟩ 0) rfl rfl rfl) rfl ⟨by rw [HX.out], filQ_below L1.out (Nat.le_refl _) ⟨#[]⟩ 0⟩
    · obtain ⟨q, rfl⟩ := Int.eq_ofNat_of_zero_le hp0
      have hq4 : q + 4 ≤ n := by omega
      obtain ⟨b, off, rfl, hb, hcs⟩ := hs.2 (by omega)
      have e1 : n2 l (q : Int) = (b2 l q, true) := b2_n2 (by omega)
      have e2 : n2 l ((q : Int) + 2) = (b2 l (q + 2), true) := b2_n2 (k := q + 2) (by omega)
      have HX : Hid (gq l k = if qok (Jo L) (b2 l q) = true ∧ b2 l (q + 2) = 1 then (0, (q : Int) + 4, Jo L, b2 l q) else (2, 0, ⟨#[]⟩, 0)) := by
        show _ = _
        split
        · rename_i hg
          have := gq_good hR (by rw [hl]; exact h4) (by rw [e1]; exact hg.1) (by rw [e2]; exact hg.2)
          rw [e1] at this
          exact this
        · rename_i hg
          exact gq_form hR (by rw [hl]; exact h4) (by rw [e1, e2]; exact hg)
      have G1 : Hid (∀ W, Below w.heap.size w W → Calls Tryz.prog 94 #[.slice (some ⟨b, off + q, none⟩) 4 4, .int .i64 0] W fun e w' => e = .returned (.tuple #[.int .i64 (b2 l q), .bool true]) ∧ W = w') := fun W hW => by
        have := implGet2_yes (some ⟨b, off + q, none⟩) 4 4 ((l.drop q).take 4) W _ 0 (sl_sub (hs.below hW) q 4 hq4 (by omega)) (by omega) (by omega) (by rw [List.length_take, List.length_drop]; omega)
        rw [sub2 l q 4 0 (by omega)] at this
        exact this
      have G2 : Hid (∀ W, Below w.heap.size w W → Calls Tryz.prog 94 #[.slice (some ⟨b, off + q, none⟩) 4 4, .int .i64 2] W fun e w' => e = .returned (.tuple #[.int .i64 (b2 l (q + 2)), .bool true]) ∧ W = w') := fun W hW => by
        have := implGet2_yes (some ⟨b, off + q, none⟩) 4 4 ((l.drop q).take 4) W _ 2 (sl_sub (hs.below hW) q 4 hq4 (by omega)) (by omega) (by omega) (by rw [List.length_take, List.length_drop]; omega)
        rw [sub2 l q 4 2 (by omega)] at this
        exact this
      have QO : Hid (∀ W, Below w.heap.size w W → Calls Tryz.prog 66 #[.agg #[.string (Jo L), .int .i64 (b2 l q)]] W fun e w' => e = .returned (.bool (qok (Jo L) (b2 l q))) ∧ Below W.heap.size W w') := fun W hW => questI (Jo L) (b2 l q) W (he.below hW) (by omega)
      clear hs hl he hR hcs e1 e2
      generalize gq l k = X at *
      generalize b2 l q = ty at *
      generalize b2 l (q + 2) = cl at *
      generalize Jo L = s at *
      obtain ⟨ok, hok⟩ : ∃ ok, qok s ty = ok := ⟨_, rfl⟩
      rw [hok] at QO HX
      clear hok
      go_enter Tryz.func39, Tryz.ntmps39
      go_wp2_with fail
      refine (GN.out _ L0.out).mono ?_
      rintro e w1 ⟨rfl, hl⟩
      have L1 := Lib.hid (L0.out.trans (hl.mono L0.out.size))
      have Z1 := Lib.hid (Z0.out.below hl Z0.out.lt)
      clear hl L0 Z0
      go_wp2_with fail
      refine (part_yes b off n c q 4 w1 hnc hn hq4 (by decide)).mono ?_
      rintro e w2 ⟨rfl, rfl⟩
      go_wp2_with fail
      refine (G1.out _ L1.out).mono ?_
      rintro e w2 ⟨rfl, rfl⟩
      go_wp2_with fail
      refine (G2.out _ L1.out).mono ?_
      rintro e w2 ⟨rfl, rfl⟩
      have L2 := Lib.hid (L1.out.alloc L1.out.size (.cells #[.string s, .int .i64 ty] 25))
      have Z2 := Lib.hid (Z1.out.alloc (.cells #[.string s, .int .i64 ty] 25))
      have X2 := Lib.hid (qx_new w1 25 s ty)
      clear L1 Z1 G1 G2 GN
      go_wp2_with fail
      refine (QO.out _ L2.out).mono ?_
      rintro e w3 ⟨rfl, hl⟩
      have L3 := Lib.hid (L2.out.trans (hl.mono L2.out.size))
      have Z3 := Lib.hid (Z2.out.below hl Z2.out.lt)
      have X3 := Lib.hid (X2.out.below hl)
      clear hl L2 Z2 X2 QO
      generalize w1.heap.size = gx at *
      obtain ⟨z0, z1⟩ := qx_of Z3.out
      have f0 := Z3.out.free 0
      have f1 := Z3.out.free 1
      obtain ⟨y0, y1⟩ := X3.out
      cases ok
      · go_wp2
        exact bodyPost_ret (v := valQ (2, 0, ⟨#[]⟩, 0)) (res3Q rfl (filQ_bk Z3.out ⟨#[]⟩ 0) rfl rfl rfl) rfl ⟨by rw [HX.out, if_neg (fun e => by cases e.1)], filQ_below L3.out (Nat.le_refl _) ⟨#[]⟩ 0⟩
      · by_cases h1 : cl = 1
        · have h1' : (cl != 1) = false := by rw [h1]; rfl
          go_wp2
          exact bodyPost_ret (v := valQ (0, (q : Int) + 4, s, ty)) (res3Q rfl (filQ_bk Z3.out s ty) rfl rfl rfl) rfl ⟨by rw [HX.out, if_pos ⟨by first | rfl | trivial, h1⟩], filQ_below L3.out (Nat.le_refl _) s ty⟩
        · have h1' : (cl != 1) = true := by simp [h1]
          have H1 := Lib.hid h1
          clear h1
          go_wp2
          exact bodyPost_ret (v := valQ (2, 0, ⟨#[]⟩, 0)) (res3Q rfl (filQ_bk Z3.out ⟨#[]⟩ 0) rfl rfl rfl) rfl ⟨by rw [HX.out, if_neg (fun e => H1.out e.2)], filQ_below L3.out (Nat.le_refl _) ⟨#[]⟩ 0⟩
  · have HX := Lib.hid (gq_name hR hc)
    generalize gq l k = X at *
    generalize Jo L = s at *
    have hc' : ((c0 : Int) != 0) = true := by simp; omega
    have hc2 : ¬ (c0 : Int) = 0 := by omega
    clear hs hl he hR
    go_enter Tryz.func39, Tryz.ntmps39
    go_wp2_with fail
    refine (GN.out _ L0.out).mono ?_
    rintro e w1 ⟨rfl, hl⟩
    have L1 := Lib.hid (L0.out.trans (hl.mono L0.out.size))
    have Z1 := Lib.hid (Z0.out.below hl Z0.out.lt)
    clear hl L0 Z0
    obtain ⟨z0, z1⟩ := qx_of Z1.out
    have f0 := Z1.out.free 0
    have f1 := Z1.out.free 1
    go_wp2
    exact bodyPost_ret (v := valQ (c0, 0, ⟨#[]⟩, 0)) (res3Q rfl (filQ_bk Z1.out ⟨#[]⟩ 0) rfl rfl rfl) rfl ⟨by rw [HX.out], filQ_below L1.out (Nat.le_refl _) ⟨#[]⟩ 0⟩

set_option maxRecDepth 100000 in
set_option maxHeartbeats 4000000 in
theorem spec (A : Option Addr) (n c : Nat) (l : List UInt8) (k : Int) (w : World) (hs : Sl w w.heap.size A n l) (hnc : n ≤ c) (hn : n ≤ 400000000) :
    Calls Tryz.prog 40 #[.slice A n c, .int .i64 k] w fun e w' => e = .returned (valQ (gq l k)) ∧ Below w.heap.size w w' := by
  have hl := hs.1
  have L0 := Lib.hid (((Below.refl w.heap.size w).alloc (Nat.le_refl _) (.cells #[.string ⟨#[]⟩, .int .i64 0] 25)).alloc (by simp) (.cells #[.string ⟨#[]⟩, .int .i64 0] 25))
  have Z0 : Hid (Bk ((w.alloc (.cells #[.string ⟨#[]⟩, .int .i64 0] 25)).alloc (.cells #[.string ⟨#[]⟩, .int .i64 0] 25)) w.heap.size 25 (qc ⟨#[]⟩ 0)) := (show Bk (w.alloc (.cells #[.string ⟨#[]⟩, .int .i64 0] 25)) w.heap.size 25 (qc ⟨#[]⟩ 0) from heap_alloc_new w _).alloc _
  have N0 : Hid (Qx ((w.alloc (.cells #[.string ⟨#[]⟩, .int .i64 0] 25)).alloc (.cells #[.string ⟨#[]⟩, .int .i64 0] 25)) (w.heap.size + 1) ⟨#[]⟩ 0) := qx_of (t := 25) ResM.at2
  have HS := Lib.hid hs
  have GN := Lib.hid (fun W (hW : Below w.heap.size w W) => WalkSpec.getName A n c l k W _ rfl ((hs.below hW).wider hW.size) hn hnc)
  generalize hR : rn l [] k k 0 (-1) = R at *
  obtain ⟨c0, L, p, j⟩ := R
  unfold val3 at GN
  dsimp only at GN
  by_cases hc : c0 = 0
  · subst hc
    have HF := rn_from hR
    obtain ⟨_, hnm, hp1, hp2, _⟩ := rn_good hR
    have hz : (Jo L).size ≤ 50 := (Plain.nm_parts hnm).1
    have hp0 : 0 ≤ p := by omega
    rw [hl] at hp2
    clear hp1 HF hnm
    by_cases h4 : (n : Int) - 4 < p
    · have HX := Lib.hid (gq_short hR (by rw [hl]; exact h4))
      generalize gq l k = X at *
      generalize Jo L = s at *
      clear hs hl hR
      go_enter Tryz.func40, Tryz.ntmps40
      go_wp2_with fail
      refine (GN.out _ L0.out).mono ?_
      rintro e w1 ⟨rfl, hl⟩
      have L1 := Lib.hid (L0.out.trans (hl.mono L0.out.size))
      have Z1 := Lib.hid (Z0.out.below hl Z0.out.lt)
      have N1 := Lib.hid (N0.out.below hl)
      clear hl L0 Z0 N0
      obtain ⟨u0, u1⟩ := N1.out
      obtain ⟨z0, z1⟩ := qx_of Z1.out
      have f0 := Z1.out.free 0
      have f1 := Z1.out.free 1
      go_wp2
      exact bodyPost_ret (v := valQ (1, 0, ⟨#[]⟩, 0)) (res3Q rfl (filQ_bk Z1.out ⟨#[]⟩ 0) rfl rfl rfl) rfl ⟨by rw [HX.out], filQ_below L1.out (Nat.le_refl _) ⟨#[]⟩ 0⟩
    · obtain ⟨q, rfl⟩ := Int.eq_ofNat_of_zero_le hp0
      have hq4 : q + 4 ≤ n := by omega
      obtain ⟨b, off, rfl, hb, hcs⟩ := hs.2 (by omega)
      have e1 : n2 l (q : Int) = (b2 l q, true) := b2_n2 (by omega)
      have e2 : n2 l ((q : Int) + 2) = (b2 l (q + 2), true) := b2_n2 (k := q + 2) (by omega)
      have HX : Hid (gq l k = if qok (Jo L) (b2 l q) = true ∧ b2 l (q + 2) = 1 then (0, (q : Int) + 4, Jo L, b2 l q) else (2, 0, ⟨#[]⟩, 0)) := by
        show _ = _
        split
        · rename_i hg
          have := gq_good hR (by rw [hl]; exact h4) (by rw [e1]; exact hg.1) (by rw [e2]; exact hg.2)
          rw [e1] at this
          exact this
        · rename_i hg
          exact gq_form hR (by rw [hl]; exact h4) (by rw [e1, e2]; exact hg)
      have G1 : Hid (∀ W, Below w.heap.size w W → Calls Tryz.prog 100 #[.slice (some ⟨b, off, none⟩) n c, .int .i64 (q : Int)] W fun e w' => e = .returned (.tuple #[.int .i64 (b2 l q), .bool true]) ∧ Below W.heap.size W w') := fun W hW =>
        (specGet2_yes (some ⟨b, off, none⟩) n c l W _ q (hs.below hW) hn (by omega)).mono fun e w' ⟨h1, q', h2⟩ => ⟨h1, h2 ▸ drewN_below W q' _⟩
      have G2 : Hid (∀ W, Below w.heap.size w W → Calls Tryz.prog 100 #[.slice (some ⟨b, off, none⟩) n c, .int .i64 ((q : Int) + 2)] W fun e w' => e = .returned (.tuple #[.int .i64 (b2 l (q + 2)), .bool true]) ∧ Below W.heap.size W w') := fun W hW =>
        (specGet2_yes (some ⟨b, off, none⟩) n c l W _ (q + 2) (hs.below hW) hn (by omega)).mono fun e w' ⟨h1, q', h2⟩ => ⟨h1, h2 ▸ drewN_below W q' _⟩
      have QO : Hid (∀ W, Below w.heap.size w W → Calls Tryz.prog 69 #[.agg #[.string (Jo L), .int .i64 (b2 l q)]] W fun e w' => e = .returned (.bool (qok (Jo L) (b2 l q))) ∧ Below W.heap.size W w') := fun W hW => questS (Jo L) (b2 l q) W (by omega)
      clear hs hl hR hcs e1 e2
      generalize gq l k = X at *
      generalize b2 l q = ty at *
      generalize b2 l (q + 2) = cl at *
      generalize Jo L = s at *
      obtain ⟨ok, hok⟩ : ∃ ok, qok s ty = ok := ⟨_, rfl⟩
      rw [hok] at QO HX
      clear hok
      go_enter Tryz.func40, Tryz.ntmps40
      go_wp2_with fail
      refine (GN.out _ L0.out).mono ?_
      rintro e w1 ⟨rfl, hl⟩
      have L1 := Lib.hid (L0.out.trans (hl.mono L0.out.size))
      have Z1 := Lib.hid (Z0.out.below hl Z0.out.lt)
      have N1 := Lib.hid (N0.out.below hl)
      clear hl L0 Z0 N0
      go_wp2_with fail
      refine (G1.out _ L1.out).mono ?_
      rintro e w2 ⟨rfl, hl⟩
      have L2 := Lib.hid (L1.out.trans (hl.mono L1.out.size))
      have Z2 := Lib.hid (Z1.out.below hl Z1.out.lt)
      have N2 := Lib.hid (N1.out.below hl)
      clear hl L1 Z1 N1
      go_wp2_with fail
      refine (G2.out _ L2.out).mono ?_
      rintro e w3 ⟨rfl, hl⟩
      have L3' := L2.out.trans (hl.mono L2.out.size)
      have L3 := Lib.hid (L3'.alloc L3'.size (.cells #[.string s, .int .i64 ty] 25))
      have Z3 := Lib.hid ((Z2.out.below hl Z2.out.lt).alloc (.cells #[.string s, .int .i64 ty] 25))
      have N3 := Lib.hid ((N2.out.below hl).below ((Below.refl _ _).alloc (Nat.le_refl _) (.cells #[.string s, .int .i64 ty] 25)))
      have X3 := Lib.hid (qx_new w3 25 s ty)
      clear L2 Z2 N2 G1 G2 GN L3' hl
      go_wp2_with fail
      refine (QO.out _ L3.out).mono ?_
      rintro e w4 ⟨rfl, hl⟩
      have L4 := Lib.hid (L3.out.trans (hl.mono L3.out.size))
      have Z4 := Lib.hid (Z3.out.below hl Z3.out.lt)
      have X4 := Lib.hid (X3.out.below hl)
      have N4 := Lib.hid (N3.out.below hl)
      clear hl L3 Z3 X3 N3 QO
      generalize w3.heap.size = gx at *
      obtain ⟨u0, u1⟩ := N4.out
      obtain ⟨z0, z1⟩ := qx_of Z4.out
      have f0 := Z4.out.free 0
      have f1 := Z4.out.free 1
      obtain ⟨y0, y1⟩ := X4.out
      cases ok
      · go_wp2
        exact bodyPost_ret (v := valQ (2, 0, ⟨#[]⟩, 0)) (res3Q rfl (filQ_bk Z4.out ⟨#[]⟩ 0) rfl rfl rfl) rfl ⟨by rw [HX.out, if_neg (fun e => by cases e.1)], filQ_below L4.out (Nat.le_refl _) ⟨#[]⟩ 0⟩
      · by_cases h1 : cl = 1
        · have h1' : (cl != 1) = false := by rw [h1]; rfl
          go_wp2
          exact bodyPost_ret (v := valQ (0, (q : Int) + 4, s, ty)) (res3Q rfl (filQ_bk Z4.out s ty) rfl rfl rfl) rfl ⟨by rw [HX.out, if_pos ⟨by first | rfl | trivial, h1⟩], filQ_below L4.out (Nat.le_refl _) s ty⟩
        · have h1' : (cl != 1) = true := by simp [h1]
          have H1 := Lib.hid h1
          clear h1
          go_wp2
          exact bodyPost_ret (v := valQ (2, 0, ⟨#[]⟩, 0)) (res3Q rfl (filQ_bk Z4.out ⟨#[]⟩ 0) rfl rfl rfl) rfl ⟨by rw [HX.out, if_neg (fun e => H1.out e.2)], filQ_below L4.out (Nat.le_refl _) ⟨#[]⟩ 0⟩
  · have HX := Lib.hid (gq_name hR hc)
    generalize gq l k = X at *
    generalize Jo L = s at *
    have hc' : ((c0 : Int) != 0) = true := by simp; omega
    have hc2 : ¬ (c0 : Int) = 0 := by omega
    clear hs hl hR
    go_enter Tryz.func40, Tryz.ntmps40
    go_wp2_with fail
    refine (GN.out _ L0.out).mono ?_
    rintro e w1 ⟨rfl, hl⟩
    have L1 := Lib.hid (L0.out.trans (hl.mono L0.out.size))
    have Z1 := Lib.hid (Z0.out.below hl Z0.out.lt)
    have N1 := Lib.hid (N0.out.below hl)
    clear hl L0 Z0 N0
    obtain ⟨u0, u1⟩ := N1.out
    obtain ⟨z0, z1⟩ := qx_of Z1.out
    have f0 := Z1.out.free 0
    have f1 := Z1.out.free 1
    go_wp2
    exact bodyPost_ret (v := valQ (c0, 0, ⟨#[]⟩, 0)) (res3Q rfl (filQ_bk Z1.out ⟨#[]⟩ 0) rfl rfl rfl) rfl ⟨by rw [HX.out], filQ_below L1.out (Nat.le_refl _) ⟨#[]⟩ 0⟩
end Go.Proofs.YtkfibepejlgniaaGreatDoor.GetQ

/- What GetHead does in the program and in the model: it reads a header as HeadRd tells, and turns nothing that was there. Condition: at most 400000000 bytes. -/
namespace Go.Proofs.YtkfibepejlgniaaGreatDoor.GetH
open Go.RowKit Go.Proofs.YtkfibepejlgniaaGreatDoor.Mem Go.Proofs.YtkfibepejlgniaaGreatDoor.MemR Go.Proofs.YtkfibepejlgniaaGreatDoor.MemM Go.Proofs.YtkfibepejlgniaaGreatDoor.Get Go.Proofs.YtkfibepejlgniaaGreatDoor.ResR Go.Proofs.YtkfibepejlgniaaGreatDoor.ResM Go.Proofs.YtkfibepejlgniaaGreatDoor.PartI Go.Proofs.YtkfibepejlgniaaGreatDoor.HeadRd

theorem results_cell_tmp4 {fn : Func} {p t u v x : Tmp} {ty : TypeId} (h : fn.results = #[.cell p ty, .tmp t, .tmp u, .tmp v, .tmp x]) (tmps : Array Value) (P : Program) (w : World) :
    (results fn tmps).run P w = ((asAddr (tmps.getD p undef)).run P w).andThen fun a w₁ => ((loadVar ty a).run P w₁).andThen fun y w₂ => .ok (.tuple #[y, tmps.getD t undef, tmps.getD u undef, tmps.getD v undef, tmps.getD x undef]) w₂ := by
  simp only [results, h]
  simp [Sem.run_bind, Result.andThen]
theorem res5M {fn : Func} {p t u v x : Tmp} {w : World} {g : Nat} {tt : TypeId} {h : Hd} {A1 A2 A3 : Option Addr} {n1 c1 n2 c2 n3 c3 : Nat} {a b c d : Value} {tmps : Array Value} (hf : fn.results = #[.cell p 28, .tmp t, .tmp u, .tmp v, .tmp x])
    (k : Bk w g tt (mc h (.slice A1 n1 c1) (.slice A2 n2 c2) (.slice A3 n3 c3))) (h4 : tmps.getD p undef = .pointer (some ⟨g, 0, none⟩)) (e1 : tmps.getD t undef = a) (e2 : tmps.getD u undef = b) (e3 : tmps.getD v undef = c) (e4 : tmps.getD x undef = d) :
    (results fn tmps).run Tryz.prog w = .ok (.tuple #[.agg #[.int .i64 h.id, .bool h.rp, .bool h.au, .bool h.ct, .bool h.wa, .bool h.ca, .int .i64 h.code, .string h.qn, .int .i64 h.qt, .slice A1 n1 c1, .slice A2 n2 c2, .slice A3 n3 c3], a, b, c, d]) w := by
  rw [results_cell_tmp4 hf, h4, as_addr]
  simp only [Result.andThen, load_msg k, e1, e2, e3, e4]
theorem res2M {fn : Func} {p t : Tmp} {w : World} {g : Nat} {tt : TypeId} {h : Hd} {A1 A2 A3 : Option Addr} {n1 c1 n2 c2 n3 c3 : Nat} {a : Value} {tmps : Array Value} (hf : fn.results = #[.cell p 28, .tmp t])
    (k : Bk w g tt (mc h (.slice A1 n1 c1) (.slice A2 n2 c2) (.slice A3 n3 c3))) (h4 : tmps.getD p undef = .pointer (some ⟨g, 0, none⟩)) (e1 : tmps.getD t undef = a) :
    (results fn tmps).run Tryz.prog w = .ok (.tuple #[.agg #[.int .i64 h.id, .bool h.rp, .bool h.au, .bool h.ct, .bool h.wa, .bool h.ca, .int .i64 h.code, .string h.qn, .int .i64 h.qt, .slice A1 n1 c1, .slice A2 n2 c2, .slice A3 n3 c3], a]) w := by
  rw [results_cell_tmp hf, h4, as_addr]
  simp only [Result.andThen, load_msg k, e1]

/-- The program's test for other bits is the model's. -/
theorem not135 (x : Int) (h0 : 0 ≤ x) (h1 : x < 256) : (bits .andNot .u8 x 135 == 0) = !bo x 120 := by
  have key : ∀ y : Fin 256, (bits .andNot .u8 ((y.val : Nat) : Int) 135 == 0) = !bo ((y.val : Nat) : Int) 120 := by decide +kernel
  have := key ⟨x.toNat, by omega⟩
  rw [Int.toNat_of_nonneg h0] at this
  exact this
theorem not143 (x : Int) (h0 : 0 ≤ x) (h1 : x < 256) : (bits .andNot .u8 x 143 == 0) = !bo x 112 := by
  have key : ∀ y : Fin 256, (bits .andNot .u8 ((y.val : Nat) : Int) 143 == 0) = !bo ((y.val : Nat) : Int) 112 := by decide +kernel
  have := key ⟨x.toNat, by omega⟩
  rw [Int.toNat_of_nonneg h0] at this
  exact this
theorem and15_wrap (x : Int) (h0 : 0 ≤ x) (h1 : x < 256) : IntKind.i64.wrap (bits .and .u8 x 15) = bits .and .u8 x 15 := by
  rw [u8_and15 x h0 h1, IntKind.wrap_i64]; omega

set_option maxRecDepth 100000 in
set_option maxHeartbeats 4000000 in
theorem flagsIn (b off : Nat) (l : List UInt8) (w : World) (hs : Sl w w.heap.size (some ⟨b, off, none⟩) 12 l) :
    Calls Tryz.prog 93 #[.slice (some ⟨b, off, none⟩) 12 12] w fun e w' => e = .returned (.tuple #[.agg #[.int .i64 (hdr 0 (by8 l 2) (by8 l 3)).id, .bool (hdr 0 (by8 l 2) (by8 l 3)).rp, .bool (hdr 0 (by8 l 2) (by8 l 3)).au, .bool (hdr 0 (by8 l 2) (by8 l 3)).ct, .bool (hdr 0 (by8 l 2) (by8 l 3)).wa, .bool (hdr 0 (by8 l 2) (by8 l 3)).ca, .int .i64 (hdr 0 (by8 l 2) (by8 l 3)).code, .string (hdr 0 (by8 l 2) (by8 l 3)).qn, .int .i64 (hdr 0 (by8 l 2) (by8 l 3)).qt, .slice none 0 0, .slice none 0 0, .slice none 0 0], .bool (!bo (by8 l 2) 120 && !bo (by8 l 3) 112)]) ∧ Below w.heap.size w w' := by
  have hl := hs.1
  have hs' := hs.below ((Below.refl w.heap.size w).alloc (Nat.le_refl _) (.cells #[.int .i64 0, .bool false, .bool false, .bool false, .bool false, .bool false, .int .i64 0, .string ⟨#[]⟩, .int .i64 0, .slice none 0 0, .slice none 0 0, .slice none 0 0] 28))
  obtain ⟨b', off', e, hb, hc⟩ := hs'.2 (by omega)
  simp only [Option.some.injEq, Addr.mk.injEq, and_true] at e
  obtain ⟨rfl, rfl⟩ := e
  have k2 := hc 2 (by omega)
  have k3 := hc 3 (by omega)
  rw [← by8_at] at k2 k3
  have i2 := by8_in l 2
  have i3 := by8_in l 3
  generalize by8 l 2 = x at *
  generalize by8 l 3 = y at *
  have S0 : (w.alloc (.cells #[.int .i64 0, .bool false, .bool false, .bool false, .bool false, .bool false, .int .i64 0, .string ⟨#[]⟩, .int .i64 0, .slice none 0 0, .slice none 0 0, .slice none 0 0] 28)).cell? ⟨b, off + 2, none⟩ = some (.int .u8 x) ∧ (w.alloc (.cells #[.int .i64 0, .bool false, .bool false, .bool false, .bool false, .bool false, .int .i64 0, .string ⟨#[]⟩, .int .i64 0, .slice none 0 0, .slice none 0 0, .slice none 0 0] 28)).cell? ⟨b, off + 3, none⟩ = some (.int .u8 y) := ⟨k2, k3⟩
  have T1 := Lib.hid (not135 x i2.1 i2.2)
  have T2 := Lib.hid (not143 y i3.1 i3.2)
  have T3 := Lib.hid (and15_wrap y i3.1 i3.2)
  have L0 := Lib.hid ((Below.refl w.heap.size w).alloc (Nat.le_refl _) (.cells #[.int .i64 0, .bool false, .bool false, .bool false, .bool false, .bool false, .int .i64 0, .string ⟨#[]⟩, .int .i64 0, .slice none 0 0, .slice none 0 0, .slice none 0 0] 28))
  have Z0 : Hid (Bk (w.alloc (.cells #[.int .i64 0, .bool false, .bool false, .bool false, .bool false, .bool false, .int .i64 0, .string ⟨#[]⟩, .int .i64 0, .slice none 0 0, .slice none 0 0, .slice none 0 0] 28)) w.heap.size 28 (mc zh (.slice none 0 0) (.slice none 0 0) (.slice none 0 0))) := heap_alloc_new w _
  clear hs hs' hl hc k2 k3 i2 i3 hb
  generalize (!bo x 120) = p at *
  generalize (!bo y 112) = q at *
  cases p
  all_goals
    go_enter Tryz.func93, Tryz.ntmps93
    go_wp2
    go_region_held3 (fun w' => w'.cell? ⟨b, off + 2, none⟩ = some (.int .u8 x) ∧ w'.cell? ⟨b, off + 3, none⟩ = some (.int .u8 y))
      (first | exact S0 | with_reducible assumption | fail)
      (fail)
    rename_i hH
    clear hH
    have L1 : Hid (Below w.heap.size w (w.alloc (.cells #[.int .i64 0, .bool false, .bool false, .bool false, .bool false, .bool false, .int .i64 0, .string ⟨#[]⟩, .int .i64 0, .slice none 0 0, .slice none 0 0, .slice none 0 0] 28)).drew) := L0.out.drew
    have Z1 : Hid (Bk (w.alloc (.cells #[.int .i64 0, .bool false, .bool false, .bool false, .bool false, .bool false, .int .i64 0, .string ⟨#[]⟩, .int .i64 0, .slice none 0 0, .slice none 0 0, .slice none 0 0] 28)).drew w.heap.size 28 (mc zh (.slice none 0 0) (.slice none 0 0) (.slice none 0 0))) := Z0.out
    generalize (w.alloc (.cells #[.int .i64 0, .bool false, .bool false, .bool false, .bool false, .bool false, .int .i64 0, .string ⟨#[]⟩, .int .i64 0, .slice none 0 0, .slice none 0 0, .slice none 0 0] 28)).drew = w1 at *
    have L2 := Lib.hid (L1.out.alloc L1.out.size (.cells #[.int .i64 0, .bool (bits .and .u8 x 128 != 0), .bool (bits .and .u8 x 4 != 0), .bool (bits .and .u8 x 2 != 0), .bool (bits .and .u8 x 1 != 0), .bool (bits .and .u8 y 128 != 0), .int .i64 (bits .and .u8 y 15), .string ⟨#[]⟩, .int .i64 0, .slice none 0 0, .slice none 0 0, .slice none 0 0] 28))
    have Z2 := Lib.hid (Z1.out.alloc (.cells #[.int .i64 0, .bool (bits .and .u8 x 128 != 0), .bool (bits .and .u8 x 4 != 0), .bool (bits .and .u8 x 2 != 0), .bool (bits .and .u8 x 1 != 0), .bool (bits .and .u8 y 128 != 0), .int .i64 (bits .and .u8 y 15), .string ⟨#[]⟩, .int .i64 0, .slice none 0 0, .slice none 0 0, .slice none 0 0] 28))
    have X2 := mx_new w1 28 (hdr 0 x y) (.slice none 0 0) (.slice none 0 0) (.slice none 0 0)
    obtain ⟨z0, z1, z2, z3, z4, z5, z6, z7, z8, z9, z10, z11⟩ := mx_of Z2.out
    have f0 := Z2.out.free 0
    have f1 := Z2.out.free 1
    have f2 := Z2.out.free 2
    have f3 := Z2.out.free 3
    have f4 := Z2.out.free 4
    have f5 := Z2.out.free 5
    have f6 := Z2.out.free 6
    have f7 := Z2.out.free 7
    have f8 := Z2.out.free 8
    have f9 := Z2.out.free 9
    have f10 := Z2.out.free 10
    have f11 := Z2.out.free 11
    have t1 := T1.out
    have t2 := T2.out
    have t3 := T3.out
    clear T1 T2 T3
    go_wp2
    exact bodyPost_ret (v := .tuple #[.agg #[.int .i64 (hdr 0 x y).id, .bool (hdr 0 x y).rp, .bool (hdr 0 x y).au, .bool (hdr 0 x y).ct, .bool (hdr 0 x y).wa, .bool (hdr 0 x y).ca, .int .i64 (hdr 0 x y).code, .string (hdr 0 x y).qn, .int .i64 (hdr 0 x y).qt, .slice none 0 0, .slice none 0 0, .slice none 0 0], _]) (res2M rfl (filM_bk Z2.out (hdr 0 x y) (.slice none 0 0) (.slice none 0 0) (.slice none 0 0)) rfl rfl) rfl ⟨by first | rfl | simp, filM_below L2.out (Nat.le_refl _) (hdr 0 x y) (.slice none 0 0) (.slice none 0 0) (.slice none 0 0)⟩
end Go.Proofs.YtkfibepejlgniaaGreatDoor.GetH

/- What the program's GetHead does: it reads a header as HeadRd tells, and turns nothing that was there. Condition: at most 400000000 bytes. -/
namespace Go.Proofs.YtkfibepejlgniaaGreatDoor.GetHI
open Go.RowKit Go.Proofs.YtkfibepejlgniaaGreatDoor.Mem Go.Proofs.YtkfibepejlgniaaGreatDoor.MemR Go.Proofs.YtkfibepejlgniaaGreatDoor.MemM Go.Proofs.YtkfibepejlgniaaGreatDoor.Get Go.Proofs.YtkfibepejlgniaaGreatDoor.ResR Go.Proofs.YtkfibepejlgniaaGreatDoor.ResM Go.Proofs.YtkfibepejlgniaaGreatDoor.PartI Go.Proofs.YtkfibepejlgniaaGreatDoor.HeadRd Go.Proofs.YtkfibepejlgniaaGreatDoor.GetH

theorem by8_take (l : List UInt8) (k m : Nat) (h : k < m) : by8 ((l.drop 0).take m) k = by8 l k := by
  unfold by8
  rw [List.drop_zero, List.getD_eq_getElem?_getD, List.getD_eq_getElem?_getD, List.getElem?_take_of_lt h]
/-- The head without its Id; an Id put into a head. -/
def HH (l : List UInt8) : Hd := hdr 0 (by8 l 2) (by8 l 3)
def wi (h : Hd) (q : Int) : Hd := { h with id := q }
theorem wi_HH (l : List UInt8) (q : Int) : wi (HH l) q = hdr q (by8 l 2) (by8 l 3) := rfl
/-- What GetHead hands back. -/
def valH (l : List UInt8) : Value := .tuple #[.agg #[.int .i64 (ghh l).id, .bool (ghh l).rp, .bool (ghh l).au, .bool (ghh l).ct, .bool (ghh l).wa, .bool (ghh l).ca, .int .i64 (ghh l).code, .string (ghh l).qn, .int .i64 (ghh l).qt, .slice none 0 0, .slice none 0 0, .slice none 0 0], .int .i64 (ghn l 6), .int .i64 (ghn l 8), .int .i64 (ghn l 10), .bool (ghb l)]
def valZ : Value := .tuple #[.agg #[.int .i64 zh.id, .bool zh.rp, .bool zh.au, .bool zh.ct, .bool zh.wa, .bool zh.ca, .int .i64 zh.code, .string zh.qn, .int .i64 zh.qt, .slice none 0 0, .slice none 0 0, .slice none 0 0], .int .i64 0, .int .i64 0, .int .i64 0, .bool false]
theorem valH_not {l : List UInt8} (h : ghb l = false) : valH l = valZ := by
  unfold valH valZ
  rw [ghh_not h, ghn_not h, ghn_not h, ghn_not h, h]
theorem valH_yes {l : List UInt8} (h : ghb l = true) : valH l = .tuple #[.agg #[.int .i64 (wi (HH l) (b2 l 0)).id, .bool (wi (HH l) (b2 l 0)).rp, .bool (wi (HH l) (b2 l 0)).au, .bool (wi (HH l) (b2 l 0)).ct, .bool (wi (HH l) (b2 l 0)).wa, .bool (wi (HH l) (b2 l 0)).ca, .int .i64 (wi (HH l) (b2 l 0)).code, .string (wi (HH l) (b2 l 0)).qn, .int .i64 (wi (HH l) (b2 l 0)).qt, .slice none 0 0, .slice none 0 0, .slice none 0 0], .int .i64 (b2 l 6), .int .i64 (b2 l 8), .int .i64 (b2 l 10), .bool true] := by
  unfold valH
  rw [ghh_yes h, ghn_yes h, ghn_yes h, ghn_yes h, h, wi_HH]

set_option maxRecDepth 100000 in
set_option maxHeartbeats 8000000 in
theorem impl (A : Option Addr) (n c : Nat) (l : List UInt8) (w : World) (hs : Sl w w.heap.size A n l) (hnc : n ≤ c) (hn : n ≤ 400000000) :
    Calls Tryz.prog 35 #[.slice A n c] w fun e w' => e = .returned (valH l) ∧ Below w.heap.size w w' := by
  have hl := hs.1
  have L0 := Lib.hid ((Below.refl w.heap.size w).alloc (Nat.le_refl _) (.cells #[.int .i64 0, .bool false, .bool false, .bool false, .bool false, .bool false, .int .i64 0, .string ⟨#[]⟩, .int .i64 0, .slice none 0 0, .slice none 0 0, .slice none 0 0] 28))
  have Z0 : Hid (Bk (w.alloc (.cells #[.int .i64 0, .bool false, .bool false, .bool false, .bool false, .bool false, .int .i64 0, .string ⟨#[]⟩, .int .i64 0, .slice none 0 0, .slice none 0 0, .slice none 0 0] 28)) w.heap.size 28 (mc zh (.slice none 0 0) (.slice none 0 0) (.slice none 0 0))) := heap_alloc_new w _
  by_cases h12 : 12 ≤ n
  · obtain ⟨b, off, rfl, hb, hcs⟩ := hs.2 (by omega)
    have PY : Hid (∀ W, Calls Tryz.prog 92 #[.slice (some ⟨b, off, none⟩) n c, .int .i64 0, .int .i64 12] W fun e w' => e = .returned (.tuple #[.slice (some ⟨b, off, none⟩) 12 12, .bool true]) ∧ W = w') := fun W => part_yes b off n c 0 12 W hnc hn (by omega) (by decide)
    have FI : Hid (∀ W, Below w.heap.size w W → Calls Tryz.prog 93 #[.slice (some ⟨b, off, none⟩) 12 12] W fun e w' => e = .returned (.tuple #[.agg #[.int .i64 (HH l).id, .bool (HH l).rp, .bool (HH l).au, .bool (HH l).ct, .bool (HH l).wa, .bool (HH l).ca, .int .i64 (HH l).code, .string (HH l).qn, .int .i64 (HH l).qt, .slice none 0 0, .slice none 0 0, .slice none 0 0], .bool (!bo (by8 l 2) 120 && !bo (by8 l 3) 112)]) ∧ Below W.heap.size W w') := fun W hW => by
      have := flagsIn b off ((l.drop 0).take 12) W ((sl_sub (hs.below hW) 0 12 (by omega) (by omega)).wider hW.size)
      rw [by8_take l 2 12 (by decide), by8_take l 3 12 (by decide)] at this
      exact this
    have G2 : Hid (∀ (j : Nat) (W : World), j + 2 ≤ 12 → Below w.heap.size w W → Calls Tryz.prog 94 #[.slice (some ⟨b, off, none⟩) 12 12, .int .i64 (j : Int)] W fun e w' => e = .returned (.tuple #[.int .i64 (b2 l j), .bool true]) ∧ W = w') := fun j W hj hW => by
      have := implGet2_yes (some ⟨b, off, none⟩) 12 12 ((l.drop 0).take 12) W _ j (sl_sub (hs.below hW) 0 12 (by omega) (by omega)) (by omega) (by omega) (by rw [List.length_take, List.length_drop]; omega)
      rw [sub2 l 0 12 j hj, Nat.zero_add] at this
      exact this
    have HV1 := Lib.hid (fun (h : (!bo (by8 l 2) 120 && !bo (by8 l 3) 112) = false) => valH_not (l := l) (ghb_not (fun e => by rw [e.2.1, e.2.2.1] at h; cases h)))
    have HV2 := Lib.hid (fun (h : ¬ b2 l 4 = 1) => valH_not (l := l) (ghb_not (fun e => h e.2.2.2)))
    have HV3 := Lib.hid (fun (h : (!bo (by8 l 2) 120 && !bo (by8 l 3) 112) = true) (h4 : b2 l 4 = 1) => valH_yes (l := l) (by
      simp only [Bool.and_eq_true, Bool.not_eq_true'] at h
      exact ghb_of (by omega) h.1 h.2 h4))
    have g0 := Lib.hid (fun W => G2.out 0 W (by decide))
    have g4 := Lib.hid (fun W => G2.out 4 W (by decide))
    have g6 := Lib.hid (fun W => G2.out 6 W (by decide))
    have g8 := Lib.hid (fun W => G2.out 8 W (by decide))
    have g10 := Lib.hid (fun W => G2.out 10 W (by decide))
    clear hs hl hcs hb G2 hnc
    generalize valH l = VV at *
    generalize HH l = H at *
    generalize by8 l 2 = x at *
    generalize by8 l 3 = y at *
    generalize b2 l 0 = q0 at *
    generalize b2 l 4 = q4 at *
    generalize b2 l 6 = q6 at *
    generalize b2 l 8 = q8 at *
    generalize b2 l 10 = q10 at *
    generalize (!bo x 120 && !bo y 112) = ok at *
    go_enter Tryz.func35, Tryz.ntmps35
    go_wp2_with fail
    refine (PY.out _).mono ?_
    rintro e w1 ⟨rfl, rfl⟩
    go_wp2_with fail
    refine (FI.out _ L0.out).mono ?_
    rintro e w1 ⟨rfl, hl⟩
    have L1' := L0.out.trans (hl.mono L0.out.size)
    have L1 := Lib.hid (L1'.alloc L1'.size (.cells #[.int .i64 H.id, .bool H.rp, .bool H.au, .bool H.ct, .bool H.wa, .bool H.ca, .int .i64 H.code, .string H.qn, .int .i64 H.qt, .slice none 0 0, .slice none 0 0, .slice none 0 0] 28))
    have Z1 := Lib.hid ((Z0.out.below hl Z0.out.lt).alloc (.cells #[.int .i64 H.id, .bool H.rp, .bool H.au, .bool H.ct, .bool H.wa, .bool H.ca, .int .i64 H.code, .string H.qn, .int .i64 H.qt, .slice none 0 0, .slice none 0 0, .slice none 0 0] 28))
    have X1 : Hid (Bk (w1.alloc (.cells #[.int .i64 H.id, .bool H.rp, .bool H.au, .bool H.ct, .bool H.wa, .bool H.ca, .int .i64 H.code, .string H.qn, .int .i64 H.qt, .slice none 0 0, .slice none 0 0, .slice none 0 0] 28)) w1.heap.size 28 (mc (H) (.slice none 0 0) (.slice none 0 0) (.slice none 0 0))) := heap_alloc_new w1 _
    have NE : Hid (w.heap.size < w1.heap.size) := Nat.lt_of_lt_of_le Z0.out.lt hl.size
    clear hl L1' L0 Z0 PY FI
    go_wp2_with fail
    refine (g4.out _ L1.out).mono ?_
    rintro e w2 ⟨rfl, rfl⟩
    generalize hw2 : w1.alloc (.cells #[.int .i64 H.id, .bool H.rp, .bool H.au, .bool H.ct, .bool H.wa, .bool H.ca, .int .i64 H.code, .string H.qn, .int .i64 H.qt, .slice none 0 0, .slice none 0 0, .slice none 0 0] 28) = w2 at *
    clear hw2
    generalize w1.heap.size = gx at *
    obtain ⟨z0, z1, z2, z3, z4, z5, z6, z7, z8, z9, z10, z11⟩ := mx_of Z1.out
    have f0 := Z1.out.free 0
    have f1 := Z1.out.free 1
    have f2 := Z1.out.free 2
    have f3 := Z1.out.free 3
    have f4 := Z1.out.free 4
    have f5 := Z1.out.free 5
    have f6 := Z1.out.free 6
    have f7 := Z1.out.free 7
    have f8 := Z1.out.free 8
    have f9 := Z1.out.free 9
    have f10 := Z1.out.free 10
    have f11 := Z1.out.free 11
    cases ok
    · have HV := Lib.hid (HV1.out rfl)
      clear HV1 HV2 HV3
      go_wp2
      exact bodyPost_ret (v := .tuple #[.agg #[.int .i64 zh.id, .bool zh.rp, .bool zh.au, .bool zh.ct, .bool zh.wa, .bool zh.ca, .int .i64 zh.code, .string zh.qn, .int .i64 zh.qt, .slice none 0 0, .slice none 0 0, .slice none 0 0], .int .i64 0, .int .i64 0, .int .i64 0, .bool false]) (res5M rfl (filM_bk Z1.out (zh) (.slice none 0 0) (.slice none 0 0) (.slice none 0 0)) rfl rfl rfl rfl rfl) rfl ⟨by rw [HV.out]; rfl, filM_below L1.out (Nat.le_refl _) (zh) (.slice none 0 0) (.slice none 0 0) (.slice none 0 0)⟩
    · by_cases h1 : q4 = 1
      · have h1' : (q4 != 1) = false := by rw [h1]; rfl
        have HV := Lib.hid (HV3.out rfl h1)
        clear HV1 HV2 HV3
        clear z0 z1 z2 z3 z4 z5 z6 z7 z8 z9 z10 z11 f0 f1 f2 f3 f4 f5 f6 f7 f8 f9 f10 f11
        have fx := X1.out.free 0
        have cx := X1.out.cell 0
        go_wp2_with fail
        refine (g0.out _ L1.out).mono ?_
        rintro e w2' ⟨rfl, rfl⟩
        have L2 : Hid (Below w.heap.size w (w2.setCell ⟨gx, 0, none⟩ (.int .i64 q0))) := L1.out.setCell (Nat.le_of_lt NE.out) _
        have X2 : Hid (Bk (w2.setCell ⟨gx, 0, none⟩ (.int .i64 q0)) gx 28 (mc (wi H q0) (.slice none 0 0) (.slice none 0 0) (.slice none 0 0))) := X1.out.set 0 (.int .i64 q0)
        have Z2 : Hid (Bk (w2.setCell ⟨gx, 0, none⟩ (.int .i64 q0)) w.heap.size 28 (mc zh (.slice none 0 0) (.slice none 0 0) (.slice none 0 0))) := Z1.out.other (fun e => by have := NE.out; exact absurd e (Nat.ne_of_lt this)) _
        clear L1 X1 Z1
        go_wp2_with fail
        clear fx cx
        refine (g6.out _ L2.out).mono ?_
        rintro e w2' ⟨rfl, rfl⟩
        generalize (w2.setCell ⟨gx, 0, none⟩ (.int .i64 q0)) = w3 at *
        go_wp2_with fail
        refine (g8.out _ L2.out).mono ?_
        rintro e w2' ⟨rfl, rfl⟩
        go_wp2_with fail
        refine (g10.out _ L2.out).mono ?_
        rintro e w2' ⟨rfl, rfl⟩
        obtain ⟨z0, z1, z2, z3, z4, z5, z6, z7, z8, z9, z10, z11⟩ := mx_of Z2.out
        have f0 := Z2.out.free 0
        have f1 := Z2.out.free 1
        have f2 := Z2.out.free 2
        have f3 := Z2.out.free 3
        have f4 := Z2.out.free 4
        have f5 := Z2.out.free 5
        have f6 := Z2.out.free 6
        have f7 := Z2.out.free 7
        have f8 := Z2.out.free 8
        have f9 := Z2.out.free 9
        have f10 := Z2.out.free 10
        have f11 := Z2.out.free 11
        obtain ⟨y0, y1, y2, y3, y4, y5, y6, y7, y8, y9, y10, y11⟩ := mx_of X2.out
        go_wp2
        exact bodyPost_ret (v := .tuple #[.agg #[.int .i64 (wi H q0).id, .bool (wi H q0).rp, .bool (wi H q0).au, .bool (wi H q0).ct, .bool (wi H q0).wa, .bool (wi H q0).ca, .int .i64 (wi H q0).code, .string (wi H q0).qn, .int .i64 (wi H q0).qt, .slice none 0 0, .slice none 0 0, .slice none 0 0], .int .i64 q6, .int .i64 q8, .int .i64 q10, .bool true]) (res5M rfl (filM_bk Z2.out (wi H q0) (.slice none 0 0) (.slice none 0 0) (.slice none 0 0)) rfl rfl rfl rfl rfl) rfl ⟨by rw [HV.out], filM_below L2.out (Nat.le_refl _) (wi H q0) (.slice none 0 0) (.slice none 0 0) (.slice none 0 0)⟩
      · have h1' : (q4 != 1) = true := by simp [h1]
        have HV := Lib.hid (HV2.out h1)
        clear HV1 HV2 HV3
        go_wp2
        exact bodyPost_ret (v := .tuple #[.agg #[.int .i64 zh.id, .bool zh.rp, .bool zh.au, .bool zh.ct, .bool zh.wa, .bool zh.ca, .int .i64 zh.code, .string zh.qn, .int .i64 zh.qt, .slice none 0 0, .slice none 0 0, .slice none 0 0], .int .i64 0, .int .i64 0, .int .i64 0, .bool false]) (res5M rfl (filM_bk Z1.out (zh) (.slice none 0 0) (.slice none 0 0) (.slice none 0 0)) rfl rfl rfl rfl rfl) rfl ⟨by rw [HV.out]; rfl, filM_below L1.out (Nat.le_refl _) (zh) (.slice none 0 0) (.slice none 0 0) (.slice none 0 0)⟩
  · have HV := Lib.hid (valH_not (l := l) (ghb_not (fun e => by omega)))
    generalize valH l = VV at *
    clear hs hl
    go_enter Tryz.func35, Tryz.ntmps35
    go_wp2_with fail
    refine (part_no A n c 12 0 _ hn (by decide) (by omega)).mono ?_
    rintro e w1 ⟨rfl, rfl⟩
    generalize w.alloc (.cells #[.int .i64 0, .bool false, .bool false, .bool false, .bool false, .bool false, .int .i64 0, .string ⟨#[]⟩, .int .i64 0, .slice none 0 0, .slice none 0 0, .slice none 0 0] 28) = w1 at *
    obtain ⟨z0, z1, z2, z3, z4, z5, z6, z7, z8, z9, z10, z11⟩ := mx_of Z0.out
    have f0 := Z0.out.free 0
    have f1 := Z0.out.free 1
    have f2 := Z0.out.free 2
    have f3 := Z0.out.free 3
    have f4 := Z0.out.free 4
    have f5 := Z0.out.free 5
    have f6 := Z0.out.free 6
    have f7 := Z0.out.free 7
    have f8 := Z0.out.free 8
    have f9 := Z0.out.free 9
    have f10 := Z0.out.free 10
    have f11 := Z0.out.free 11
    go_wp2
    exact bodyPost_ret (v := .tuple #[.agg #[.int .i64 zh.id, .bool zh.rp, .bool zh.au, .bool zh.ct, .bool zh.wa, .bool zh.ca, .int .i64 zh.code, .string zh.qn, .int .i64 zh.qt, .slice none 0 0, .slice none 0 0, .slice none 0 0], .int .i64 0, .int .i64 0, .int .i64 0, .bool false]) (res5M rfl (filM_bk Z0.out (zh) (.slice none 0 0) (.slice none 0 0) (.slice none 0 0)) rfl rfl rfl rfl rfl) rfl ⟨by rw [HV.out]; rfl, filM_below L0.out (Nat.le_refl _) (zh) (.slice none 0 0) (.slice none 0 0) (.slice none 0 0)⟩
end Go.Proofs.YtkfibepejlgniaaGreatDoor.GetHI
