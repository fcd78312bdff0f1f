/- What the model's GetData does, of one type each: as GetSA tells. -/
import Derived.Test.YtcpadkehalgddaaDoorGetSA
namespace Go.Proofs.YtcpadkehalgddaaDoor.GetSB
open Go.RowKit Go.Proofs.YtcpadkehalgddaaDoor.Mem Go.Proofs.YtcpadkehalgddaaDoor.MemR Go.Proofs.YtcpadkehalgddaaDoor.JoinSpec Go.Proofs.YtcpadkehalgddaaDoor.GetLabel Go.Proofs.YtcpadkehalgddaaDoor.BoxR Go.Proofs.YtcpadkehalgddaaDoor.NameOk Go.Proofs.YtcpadkehalgddaaDoor.TextR Go.Proofs.YtcpadkehalgddaaDoor.RecOk Go.Proofs.YtcpadkehalgddaaDoor.WireMath Go.Proofs.YtcpadkehalgddaaDoor.WireGood Go.Proofs.YtcpadkehalgddaaDoor.WalkSpec Go.Proofs.YtcpadkehalgddaaDoor.Get Go.Proofs.YtcpadkehalgddaaDoor.Label Go.Proofs.YtcpadkehalgddaaDoor.FieldMath Go.Proofs.YtcpadkehalgddaaDoor.FieldRd Go.Proofs.YtcpadkehalgddaaDoor.ResR Go.Proofs.YtcpadkehalgddaaDoor.GetI Go.Proofs.YtcpadkehalgddaaDoor.GetSA

set_option maxRecDepth 100000 in
set_option maxHeartbeats 2000000 in
theorem data_2 (A : Option Addr) (n c : Nat) (l : List UInt8) (k q : Int) (w : World) (hs : Sl w w.heap.size A n l) (hnc : n ≤ c) (hn : n ≤ 400000000) (h : 0 ≤ q ∧ q ≤ 255) (hk : ¬ (k < 0 ∨ (n : Int) - q < k)) :
    Calls Tryd.prog 31 #[.slice A n c, .int .i64 k, .int .i64 q, .int .i64 2] w fun e w' => e = .returned (val2 (gd l k q 2)) ∧ Below w.heap.size w w' := by
  have hl := hs.1
  have HI : Hid (decide ((0 : Int) ≤ q ∧ q ≤ 255) = true) := decide_eq_true h
  have HY : Hid (Types.ty 2 = true) := rfl
  have HX := Lib.hid (gd_h h (by rw [hl]; exact hk) (Or.inl rfl))
  have GN := Lib.hid (fun W (hW : Below w.heap.size w W) => WalkSpec.getName A n c l k W _ rfl ((hs.below hW).wider hW.size) hn hnc)
  generalize gd l k q 2 = X at *
  generalize rn l [] k k 0 (-1) = R at *
  obtain ⟨c0, L, p, j⟩ := R
  unfold val3 at GN
  dsimp only at GN HX
  generalize Jo L = s at *
  clear hs hl
  obtain ⟨h0, h1⟩ := h
  have hk0 : ¬ k < 0 := by omega
  have hk1 : ¬ (n : Int) - q < k := by omega
  clear hk
  go_enter Tryd.func31, Tryd.ntmps31
  go_wp2_with fail
  refine (l1In_any _ _ _ _).mono ?_
  rw [HI.out]
  rintro e w1 ⟨rfl, rfl⟩
  go_wp2_with fail
  refine (Types.spec_ok _ _).mono ?_
  rw [HY.out]
  rintro e w1 ⟨rfl, rfl⟩
  go_wp2_with fail
  refine (GN.out _ (low_c w 2)).mono ?_
  rintro e w1 ⟨rfl, hl⟩
  have L1 := Lib.hid ((low_c w 2).trans (hl.mono (low_c w 2).size))
  have Z1 := Lib.hid (Bk.below ((box_a w).alloc _) hl (by first | (simp; done) | (simp; omega)))
  have N1 := Lib.hid (Bk.below ((box_b w).alloc _) hl (by first | (simp; done) | (simp; omega)))
  have X1 := Lib.hid (Bk.below (box_c w 2) hl (box_c w 2).lt)
  clear hl GN
  obtain ⟨z0, z1, z2, z3, z4, z5⟩ := bx_of Z1.out
  obtain ⟨n0, n1, n2, n3, n4, n5⟩ := bx_of N1.out
  obtain ⟨x0, x1, x2, x3, x4, x5⟩ := bx_of X1.out
  have f0 := Z1.out.free 0
  have f1 := Z1.out.free 1
  have f2 := Z1.out.free 2
  have f3 := Z1.out.free 3
  have f4 := Z1.out.free 4
  have f5 := Z1.out.free 5
  have e3 := X1.out.free 3
  have e4 := X1.out.free 4
  have e5 := X1.out.free 5
  by_cases hc : c0 = 0
  · subst hc
    have HX2 := Lib.hid (HX.out.trans (if_neg (fun e => e rfl)))
    clear HX
    have Z2 := Lib.hid (Z1.out.other (p := ⟨w.heap.size + 1 + 1, 4, none⟩) (by show w.heap.size ≠ w.heap.size + 1 + 1; omega) (.string s))
    have L2 := Lib.hid (L1.out.setCell (p := ⟨w.heap.size + 1 + 1, 4, none⟩) (by show w.heap.size ≤ w.heap.size + 1 + 1; omega) (.string s))
    by_cases hq : p = k + q
    · have hq2 : (p != k + q) = false := by simp [hq]
      have HX3 : Hid (X = (0, rH 2 s)) := HX2.out.trans (if_pos hq)
      clear HX2 hq
      go_wp2
      refine bodyPost_ret (v := val2 (0, rH 2 s)) (res2 rfl (fil_bk Z2.out (rH 2 s)) rfl rfl) rfl ⟨by rw [HX3.out], fil_below L2.out (Nat.le_refl _) (rH 2 s)⟩
    · have hq2 : (p != k + q) = true := by simpa using hq
      have HX3 : Hid (X = (2, zr)) := HX2.out.trans (if_neg hq)
      clear HX2 hq
      go_wp2
      refine bodyPost_ret (v := val2 (2, zr)) (res2 rfl (fil_bk Z2.out zr) rfl rfl) rfl ⟨by rw [HX3.out], fil_below L2.out (Nat.le_refl _) zr⟩
  · have HX2 := Lib.hid (HX.out.trans (if_pos hc))
    have hc2 : ((c0 : Int) != 0) = true := by simp; omega
    clear HX
    go_wp2
    refine bodyPost_ret (v := val2 (c0, zr)) (res2 rfl (fil_bk Z1.out zr) rfl rfl) rfl ⟨by rw [HX2.out], fil_below L1.out (Nat.le_refl _) zr⟩

set_option maxRecDepth 100000 in
set_option maxHeartbeats 2000000 in
theorem data_5 (A : Option Addr) (n c : Nat) (l : List UInt8) (k q : Int) (w : World) (hs : Sl w w.heap.size A n l) (hnc : n ≤ c) (hn : n ≤ 400000000) (h : 0 ≤ q ∧ q ≤ 255) (hk : ¬ (k < 0 ∨ (n : Int) - q < k)) :
    Calls Tryd.prog 31 #[.slice A n c, .int .i64 k, .int .i64 q, .int .i64 5] w fun e w' => e = .returned (val2 (gd l k q 5)) ∧ Below w.heap.size w w' := by
  have hl := hs.1
  have HI : Hid (decide ((0 : Int) ≤ q ∧ q ≤ 255) = true) := decide_eq_true h
  have HY : Hid (Types.ty 5 = true) := rfl
  have HX := Lib.hid (gd_h h (by rw [hl]; exact hk) (Or.inr rfl))
  have GN := Lib.hid (fun W (hW : Below w.heap.size w W) => WalkSpec.getName A n c l k W _ rfl ((hs.below hW).wider hW.size) hn hnc)
  generalize gd l k q 5 = X at *
  generalize rn l [] k k 0 (-1) = R at *
  obtain ⟨c0, L, p, j⟩ := R
  unfold val3 at GN
  dsimp only at GN HX
  generalize Jo L = s at *
  clear hs hl
  obtain ⟨h0, h1⟩ := h
  have hk0 : ¬ k < 0 := by omega
  have hk1 : ¬ (n : Int) - q < k := by omega
  clear hk
  go_enter Tryd.func31, Tryd.ntmps31
  go_wp2_with fail
  refine (l1In_any _ _ _ _).mono ?_
  rw [HI.out]
  rintro e w1 ⟨rfl, rfl⟩
  go_wp2_with fail
  refine (Types.spec_ok _ _).mono ?_
  rw [HY.out]
  rintro e w1 ⟨rfl, rfl⟩
  go_wp2_with fail
  refine (GN.out _ (low_c w 5)).mono ?_
  rintro e w1 ⟨rfl, hl⟩
  have L1 := Lib.hid ((low_c w 5).trans (hl.mono (low_c w 5).size))
  have Z1 := Lib.hid (Bk.below ((box_a w).alloc _) hl (by first | (simp; done) | (simp; omega)))
  have N1 := Lib.hid (Bk.below ((box_b w).alloc _) hl (by first | (simp; done) | (simp; omega)))
  have X1 := Lib.hid (Bk.below (box_c w 5) hl (box_c w 5).lt)
  clear hl GN
  obtain ⟨z0, z1, z2, z3, z4, z5⟩ := bx_of Z1.out
  obtain ⟨n0, n1, n2, n3, n4, n5⟩ := bx_of N1.out
  obtain ⟨x0, x1, x2, x3, x4, x5⟩ := bx_of X1.out
  have f0 := Z1.out.free 0
  have f1 := Z1.out.free 1
  have f2 := Z1.out.free 2
  have f3 := Z1.out.free 3
  have f4 := Z1.out.free 4
  have f5 := Z1.out.free 5
  have e3 := X1.out.free 3
  have e4 := X1.out.free 4
  have e5 := X1.out.free 5
  by_cases hc : c0 = 0
  · subst hc
    have HX2 := Lib.hid (HX.out.trans (if_neg (fun e => e rfl)))
    clear HX
    have Z2 := Lib.hid (Z1.out.other (p := ⟨w.heap.size + 1 + 1, 4, none⟩) (by show w.heap.size ≠ w.heap.size + 1 + 1; omega) (.string s))
    have L2 := Lib.hid (L1.out.setCell (p := ⟨w.heap.size + 1 + 1, 4, none⟩) (by show w.heap.size ≤ w.heap.size + 1 + 1; omega) (.string s))
    by_cases hq : p = k + q
    · have hq2 : (p != k + q) = false := by simp [hq]
      have HX3 : Hid (X = (0, rH 5 s)) := HX2.out.trans (if_pos hq)
      clear HX2 hq
      go_wp2
      refine bodyPost_ret (v := val2 (0, rH 5 s)) (res2 rfl (fil_bk Z2.out (rH 5 s)) rfl rfl) rfl ⟨by rw [HX3.out], fil_below L2.out (Nat.le_refl _) (rH 5 s)⟩
    · have hq2 : (p != k + q) = true := by simpa using hq
      have HX3 : Hid (X = (2, zr)) := HX2.out.trans (if_neg hq)
      clear HX2 hq
      go_wp2
      refine bodyPost_ret (v := val2 (2, zr)) (res2 rfl (fil_bk Z2.out zr) rfl rfl) rfl ⟨by rw [HX3.out], fil_below L2.out (Nat.le_refl _) zr⟩
  · have HX2 := Lib.hid (HX.out.trans (if_pos hc))
    have hc2 : ((c0 : Int) != 0) = true := by simp; omega
    clear HX
    go_wp2
    refine bodyPost_ret (v := val2 (c0, zr)) (res2 rfl (fil_bk Z1.out zr) rfl rfl) rfl ⟨by rw [HX2.out], fil_below L1.out (Nat.le_refl _) zr⟩

end Go.Proofs.YtcpadkehalgddaaDoor.GetSB
