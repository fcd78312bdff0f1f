/- What the model's GetData does: it reads as FieldMath tells (gd), and turns nothing that was there. Condition: at most 400000000 bytes. -/
import Derived.Test.YtcpadkehalgddaaDoorFieldRd
import Derived.Test.YtcpadkehalgddaaDoorWalkSpec
import Derived.Test.YtcpadkehalgddaaDoorWireGood
import Derived.Test.YtcpadkehalgddaaDoorResR
import Derived.Test.YtcpadkehalgddaaDoorTypes
import Derived.Test.YtcpadkehalgddaaDoorGetI
namespace Go.Proofs.YtcpadkehalgddaaDoor.GetSA
open Go.RowKit Go.Proofs.YtcpadkehalgddaaDoor.Mem Go.Proofs.YtcpadkehalgddaaDoor.MemR Go.Proofs.YtcpadkehalgddaaDoor.JoinSpec Go.Proofs.YtcpadkehalgddaaDoor.GetLabel Go.Proofs.YtcpadkehalgddaaDoor.BoxR Go.Proofs.YtcpadkehalgddaaDoor.NameOk Go.Proofs.YtcpadkehalgddaaDoor.TextR Go.Proofs.YtcpadkehalgddaaDoor.RecOk Go.Proofs.YtcpadkehalgddaaDoor.WireMath Go.Proofs.YtcpadkehalgddaaDoor.WireGood Go.Proofs.YtcpadkehalgddaaDoor.WalkSpec Go.Proofs.YtcpadkehalgddaaDoor.Get Go.Proofs.YtcpadkehalgddaaDoor.Label Go.Proofs.YtcpadkehalgddaaDoor.FieldMath Go.Proofs.YtcpadkehalgddaaDoor.FieldRd Go.Proofs.YtcpadkehalgddaaDoor.ResR Go.Proofs.YtcpadkehalgddaaDoor.GetI

theorem get4 (A : Option Addr) (n c : Nat) (l : List UInt8) (k : Int) (w : World) (B : Nat) (hs : Sl w B A n l) (hn : n ≤ 400000000) :
    Calls Tryd.prog 72 #[.slice A n c, .int .i64 k] w fun e w' => e = .returned (.tuple #[.int .i64 (FieldMath.n4 l k).1, .bool (FieldMath.n4 l k).2]) ∧ Below w.heap.size w w' := by
  have hl := hs.1
  unfold FieldMath.n4
  by_cases h : 0 ≤ k ∧ k ≤ (l.length : Int) - 4
  · rw [if_pos h]
    obtain ⟨j, rfl⟩ := Int.eq_ofNat_of_zero_le h.1
    refine (specGet4_yes A n c l w B j hs hn (by omega)).mono fun e w' ⟨he, q, hw⟩ => ⟨?_, hw ▸ drewN_below _ _ _⟩
    rw [he, Int.toNat_natCast]
    unfold four
    by_cases hv : 2147483647 < be ((l.drop j).take 4)
    · rw [if_pos hv, if_pos hv]
    · rw [if_neg hv, if_neg hv]
  · rw [if_neg h]
    exact (specGet4_no A n c w k hn (by omega)).mono fun e w' ⟨he, hw⟩ => ⟨he, hw ▸ Below.refl _ _⟩
theorem get2 (A : Option Addr) (n c : Nat) (l : List UInt8) (k : Int) (w : World) (B : Nat) (hs : Sl w B A n l) (hn : n ≤ 400000000) :
    Calls Tryd.prog 82 #[.slice A n c, .int .i64 k] w fun e w' => e = .returned (.tuple #[.int .i64 (FieldMath.n2 l k).1, .bool (FieldMath.n2 l k).2]) ∧ Below w.heap.size w w' := by
  have hl := hs.1
  unfold FieldMath.n2
  by_cases h : 0 ≤ k ∧ k ≤ (l.length : Int) - 2
  · rw [if_pos h]
    obtain ⟨j, rfl⟩ := Int.eq_ofNat_of_zero_le h.1
    exact (specGet2_yes A n c l w B j hs hn (by omega)).mono fun e w' ⟨he, q, hw⟩ => ⟨he, hw ▸ drewN_below _ _ _⟩
  · rw [if_neg h]
    exact (specGet2_no A n c w k hn (by omega)).mono fun e w' ⟨he, hw⟩ => ⟨he, hw ▸ Below.refl _ _⟩
/-- The record that stands ready for the data of type ty. -/
def r0 (ty : Int) : Rec := ⟨⟨#[]⟩, ty, 0, 0, ⟨#[]⟩, ⟨#[]⟩⟩
theorem box_a (w : World) : Bk ((w.alloc (.cells #[.string ⟨#[]⟩, .int .i64 0, .int .i64 0, .int .i64 0, .string ⟨#[]⟩, .string ⟨#[]⟩] 25)).alloc (.cells #[.string ⟨#[]⟩, .int .i64 0, .int .i64 0, .int .i64 0, .string ⟨#[]⟩, .string ⟨#[]⟩] 25)) w.heap.size 25 (rc zr) := Bk.alloc (heap_alloc_new w _) _
theorem box_b (w : World) : Bk ((w.alloc (.cells #[.string ⟨#[]⟩, .int .i64 0, .int .i64 0, .int .i64 0, .string ⟨#[]⟩, .string ⟨#[]⟩] 25)).alloc (.cells #[.string ⟨#[]⟩, .int .i64 0, .int .i64 0, .int .i64 0, .string ⟨#[]⟩, .string ⟨#[]⟩] 25)) (w.heap.size + 1) 25 (rc zr) := by
  have := heap_alloc_new (w.alloc (.cells #[.string ⟨#[]⟩, .int .i64 0, .int .i64 0, .int .i64 0, .string ⟨#[]⟩, .string ⟨#[]⟩] 25)) (.cells #[.string ⟨#[]⟩, .int .i64 0, .int .i64 0, .int .i64 0, .string ⟨#[]⟩, .string ⟨#[]⟩] 25)
  rw [show (w.alloc (.cells #[.string ⟨#[]⟩, .int .i64 0, .int .i64 0, .int .i64 0, .string ⟨#[]⟩, .string ⟨#[]⟩] 25)).heap.size = w.heap.size + 1 by simp] at this
  exact this
theorem box_c (w : World) (ty : Int) : Bk (((w.alloc (.cells #[.string ⟨#[]⟩, .int .i64 0, .int .i64 0, .int .i64 0, .string ⟨#[]⟩, .string ⟨#[]⟩] 25)).alloc (.cells #[.string ⟨#[]⟩, .int .i64 0, .int .i64 0, .int .i64 0, .string ⟨#[]⟩, .string ⟨#[]⟩] 25)).alloc (.cells #[.string ⟨#[]⟩, .int .i64 ty, .int .i64 0, .int .i64 0, .string ⟨#[]⟩, .string ⟨#[]⟩] 25)) (w.heap.size + 1 + 1) 25 (rc (r0 ty)) := by
  have := heap_alloc_new ((w.alloc (.cells #[.string ⟨#[]⟩, .int .i64 0, .int .i64 0, .int .i64 0, .string ⟨#[]⟩, .string ⟨#[]⟩] 25)).alloc (.cells #[.string ⟨#[]⟩, .int .i64 0, .int .i64 0, .int .i64 0, .string ⟨#[]⟩, .string ⟨#[]⟩] 25)) (.cells #[.string ⟨#[]⟩, .int .i64 ty, .int .i64 0, .int .i64 0, .string ⟨#[]⟩, .string ⟨#[]⟩] 25)
  rw [show ((w.alloc (.cells #[.string ⟨#[]⟩, .int .i64 0, .int .i64 0, .int .i64 0, .string ⟨#[]⟩, .string ⟨#[]⟩] 25)).alloc (.cells #[.string ⟨#[]⟩, .int .i64 0, .int .i64 0, .int .i64 0, .string ⟨#[]⟩, .string ⟨#[]⟩] 25)).heap.size = w.heap.size + 1 + 1 by simp] at this
  exact this
theorem low_b (w : World) : Below w.heap.size w ((w.alloc (.cells #[.string ⟨#[]⟩, .int .i64 0, .int .i64 0, .int .i64 0, .string ⟨#[]⟩, .string ⟨#[]⟩] 25)).alloc (.cells #[.string ⟨#[]⟩, .int .i64 0, .int .i64 0, .int .i64 0, .string ⟨#[]⟩, .string ⟨#[]⟩] 25)) := ((Below.refl _ _).alloc (Nat.le_refl _) _).alloc (by simp) _
theorem low_c (w : World) (ty : Int) : Below w.heap.size w (((w.alloc (.cells #[.string ⟨#[]⟩, .int .i64 0, .int .i64 0, .int .i64 0, .string ⟨#[]⟩, .string ⟨#[]⟩] 25)).alloc (.cells #[.string ⟨#[]⟩, .int .i64 0, .int .i64 0, .int .i64 0, .string ⟨#[]⟩, .string ⟨#[]⟩] 25)).alloc (.cells #[.string ⟨#[]⟩, .int .i64 ty, .int .i64 0, .int .i64 0, .string ⟨#[]⟩, .string ⟨#[]⟩] 25)) := (low_b w).alloc (by simp; omega) _

set_option maxRecDepth 100000 in
set_option maxHeartbeats 2000000 in
theorem data_n (A : Option Addr) (n c : Nat) (l : List UInt8) (k q ty : Int) (w : World) (h : ¬ (0 ≤ q ∧ q ≤ 255)) :
    Calls Tryd.prog 31 #[.slice A n c, .int .i64 k, .int .i64 q, .int .i64 ty] w fun e w' => e = .returned (val2 (gd l k q ty)) ∧ Below w.heap.size w w' := by
  have HI : Hid (decide ((0 : Int) ≤ q ∧ q ≤ 255) = false) := decide_eq_false h
  have HX : Hid (gd l k q ty = (2, zr)) := gd_n h
  generalize gd l k q ty = X at *
  clear h
  go_enter Tryd.func31, Tryd.ntmps31
  go_wp2_with fail
  refine (l1In_any _ _ _ _).mono ?_
  rw [HI.out]
  rintro e w1 ⟨rfl, rfl⟩
  go_wp2_with fail
  refine (l1In_any _ _ _ _).mono ?_
  rw [HI.out]
  rintro e w1 ⟨rfl, rfl⟩
  go_wp2
  refine bodyPost_ret (v := val2 (2, zr)) (res2 rfl (box_a w) rfl rfl) rfl ⟨by rw [HX.out], low_b w⟩

set_option maxRecDepth 100000 in
set_option maxHeartbeats 2000000 in
theorem data_t (A : Option Addr) (n c : Nat) (l : List UInt8) (k q ty : Int) (w : World) (hs : Sl w w.heap.size A n l) (hn : n ≤ 400000000) (h : 0 ≤ q ∧ q ≤ 255) (ht : ¬ (ty = 1 ∨ ty = 2 ∨ ty = 5 ∨ ty = 6 ∨ ty = 16)) :
    Calls Tryd.prog 31 #[.slice A n c, .int .i64 k, .int .i64 q, .int .i64 ty] w fun e w' => e = .returned (val2 (gd l k q ty)) ∧ Below w.heap.size w w' := by
  have hl := hs.1
  have HI : Hid (decide ((0 : Int) ≤ q ∧ q ≤ 255) = true) := decide_eq_true h
  have HY : Hid (Types.ty ty = false) := decide_eq_false ht
  by_cases hk : k < 0 ∨ (n : Int) - q < k
  · have HX : Hid (gd l k q ty = (1, zr)) := gd_out h (by rw [hl]; exact hk)
    generalize gd l k q ty = X at *
    clear hs hl ht
    obtain ⟨h0, h1⟩ := h
    rcases (show k < 0 ∨ (¬ k < 0 ∧ (n : Int) - q < k) by omega) with hk | ⟨hk0, hk⟩
    all_goals
      go_enter Tryd.func31, Tryd.ntmps31
      go_wp2_with fail
      refine (l1In_any _ _ _ _).mono ?_
      rw [HI.out]
      rintro e w1 ⟨rfl, rfl⟩
      go_wp2_with fail
      refine (Types.spec_ok _ _).mono ?_
      rw [HY.out]
      rintro e w1 ⟨rfl, rfl⟩
      go_wp2_with fail
      refine (l1In_any _ _ _ _).mono ?_
      rw [HI.out]
      rintro e w1 ⟨rfl, rfl⟩
      go_wp2
      refine bodyPost_ret (v := val2 (1, zr)) (res2 rfl (box_a w) rfl rfl) rfl ⟨by rw [HX.out], low_b w⟩
  · have HX : Hid (gd l k q ty = (2, zr)) := gd_ty h (by rw [hl]; exact hk) ht
    generalize gd l k q ty = X at *
    clear hs hl ht
    obtain ⟨h0, h1⟩ := h
    have hk0 : ¬ k < 0 := by omega
    have hk1 : ¬ (n : Int) - q < k := by omega
    clear hk
    go_enter Tryd.func31, Tryd.ntmps31
    go_wp2_with fail
    refine (l1In_any _ _ _ _).mono ?_
    rw [HI.out]
    rintro e w1 ⟨rfl, rfl⟩
    go_wp2_with fail
    refine (Types.spec_ok _ _).mono ?_
    rw [HY.out]
    rintro e w1 ⟨rfl, rfl⟩
    go_wp2_with fail
    refine (l1In_any _ _ _ _).mono ?_
    rw [HI.out]
    rintro e w1 ⟨rfl, rfl⟩
    go_wp2
    refine bodyPost_ret (v := val2 (2, zr)) (res2 rfl (box_a w) rfl rfl) rfl ⟨by rw [HX.out], low_b w⟩

set_option maxRecDepth 100000 in
set_option maxHeartbeats 2000000 in
theorem data_o (A : Option Addr) (n c : Nat) (l : List UInt8) (k q ty : Int) (w : World) (hs : Sl w w.heap.size A n l) (hn : n ≤ 400000000) (h : 0 ≤ q ∧ q ≤ 255) (ht : ty = 1 ∨ ty = 2 ∨ ty = 5 ∨ ty = 6 ∨ ty = 16) (hk : k < 0 ∨ (n : Int) - q < k) :
    Calls Tryd.prog 31 #[.slice A n c, .int .i64 k, .int .i64 q, .int .i64 ty] w fun e w' => e = .returned (val2 (gd l k q ty)) ∧ Below w.heap.size w w' := by
  have hl := hs.1
  have HI : Hid (decide ((0 : Int) ≤ q ∧ q ≤ 255) = true) := decide_eq_true h
  have HY : Hid (Types.ty ty = true) := decide_eq_true ht
  have HX : Hid (gd l k q ty = (1, zr)) := gd_out h (by rw [hl]; exact hk)
  generalize gd l k q ty = X at *
  clear hs hl ht
  obtain ⟨h0, h1⟩ := h
  rcases (show k < 0 ∨ (¬ k < 0 ∧ (n : Int) - q < k) by omega) with hk | ⟨hk0, hk⟩
  all_goals
    go_enter Tryd.func31, Tryd.ntmps31
    go_wp2_with fail
    refine (l1In_any _ _ _ _).mono ?_
    rw [HI.out]
    rintro e w1 ⟨rfl, rfl⟩
    go_wp2_with fail
    refine (Types.spec_ok _ _).mono ?_
    rw [HY.out]
    rintro e w1 ⟨rfl, rfl⟩
    go_wp2
    refine bodyPost_ret (v := val2 (1, zr)) (res2 rfl (box_a w) rfl rfl) rfl ⟨by rw [HX.out], low_b w⟩

set_option maxRecDepth 100000 in
set_option maxHeartbeats 2000000 in
theorem data_1 (A : Option Addr) (n c : Nat) (l : List UInt8) (k q : Int) (w : World) (hs : Sl w w.heap.size A n l) (hn : n ≤ 400000000) (h : 0 ≤ q ∧ q ≤ 255) (hk : ¬ (k < 0 ∨ (n : Int) - q < k)) :
    Calls Tryd.prog 31 #[.slice A n c, .int .i64 k, .int .i64 q, .int .i64 1] w fun e w' => e = .returned (val2 (gd l k q 1)) ∧ Below w.heap.size w w' := by
  have hl := hs.1
  have HI : Hid (decide ((0 : Int) ≤ q ∧ q ≤ 255) = true) := decide_eq_true h
  have HY : Hid (Types.ty 1 = true) := rfl
  have HX := Lib.hid (gd_1 h (by rw [hl]; exact hk))
  have G4 := Lib.hid (fun W (hW : Below w.heap.size w W) => get4 A n c l k W _ (hs.below hW) hn)
  generalize gd l k q 1 = X at *
  generalize FieldMath.n4 l k = y at *
  obtain ⟨x, b⟩ := y
  clear hs hl
  obtain ⟨h0, h1⟩ := h
  have hk0 : ¬ k < 0 := by omega
  have hk1 : ¬ (n : Int) - q < k := by omega
  clear hk
  go_enter Tryd.func31, Tryd.ntmps31
  go_wp2_with fail
  refine (l1In_any _ _ _ _).mono ?_
  rw [HI.out]
  rintro e w1 ⟨rfl, rfl⟩
  go_wp2_with fail
  refine (Types.spec_ok _ _).mono ?_
  rw [HY.out]
  rintro e w1 ⟨rfl, rfl⟩
  go_wp2_with fail
  refine (G4.out _ (low_c w 1)).mono ?_
  rintro e w1 ⟨rfl, hl⟩
  have L1 := Lib.hid ((low_c w 1).trans (hl.mono (low_c w 1).size))
  have Z1 := Lib.hid (Bk.below ((box_a w).alloc _) hl (by first | (simp; done) | (simp; omega)))
  have N1 := Lib.hid (Bk.below ((box_b w).alloc _) hl (by first | (simp; done) | (simp; omega)))
  have X1 := Lib.hid (Bk.below (box_c w 1) hl (box_c w 1).lt)
  clear hl G4
  obtain ⟨z0, z1, z2, z3, z4, z5⟩ := bx_of Z1.out
  obtain ⟨n0, n1, n2, n3, n4, n5⟩ := bx_of N1.out
  obtain ⟨x0, x1, x2, x3, x4, x5⟩ := bx_of X1.out
  have f0 := Z1.out.free 0
  have f1 := Z1.out.free 1
  have f2 := Z1.out.free 2
  have f3 := Z1.out.free 3
  have f4 := Z1.out.free 4
  have f5 := Z1.out.free 5
  have e3 := X1.out.free 3
  have e4 := X1.out.free 4
  have e5 := X1.out.free 5
  have Z2 := Lib.hid (Z1.out.other (p := ⟨w.heap.size + 1 + 1, 3, none⟩) (by show w.heap.size ≠ w.heap.size + 1 + 1; omega) (.int .i64 x))
  have L2 := Lib.hid (L1.out.setCell (p := ⟨w.heap.size + 1 + 1, 3, none⟩) (by show w.heap.size ≤ w.heap.size + 1 + 1; omega) (.int .i64 x))
  cases b
  · have HX2 : Hid (X = (2, zr)) := HX.out.trans (if_neg (fun e => by simp at e))
    clear HX
    go_wp2
    refine bodyPost_ret (v := val2 (2, zr)) (res2 rfl (fil_bk Z2.out zr) rfl rfl) rfl ⟨by rw [HX2.out], fil_below L2.out (Nat.le_refl _) zr⟩
  · by_cases hq : q = 4
    · have hq2 : (q != 4) = false := by simp [hq]
      have HX2 : Hid (X = (0, rA x)) := HX.out.trans (if_pos ⟨rfl, hq⟩)
      clear HX hq
      go_wp2
      refine bodyPost_ret (v := val2 (0, rA x)) (res2 rfl (fil_bk Z2.out (rA x)) rfl rfl) rfl ⟨by rw [HX2.out], fil_below L2.out (Nat.le_refl _) (rA x)⟩
    · have hq2 : (q != 4) = true := by simpa using hq
      have HX2 : Hid (X = (2, zr)) := HX.out.trans (if_neg (fun e => hq e.2))
      clear HX hq
      go_wp2
      refine bodyPost_ret (v := val2 (2, zr)) (res2 rfl (fil_bk Z2.out zr) rfl rfl) rfl ⟨by rw [HX2.out], fil_below L2.out (Nat.le_refl _) zr⟩

end Go.Proofs.YtcpadkehalgddaaDoor.GetSA
