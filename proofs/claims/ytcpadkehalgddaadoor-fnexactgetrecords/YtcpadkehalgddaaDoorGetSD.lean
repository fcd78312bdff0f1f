/- What the model's GetData does, of one type each: as GetSA tells. -/
import Derived.Test.YtcpadkehalgddaaDoorGetSA
namespace Go.Proofs.YtcpadkehalgddaaDoor.GetSD
open Go.RowKit Go.Proofs.YtcpadkehalgddaaDoor.Mem Go.Proofs.YtcpadkehalgddaaDoor.MemR Go.Proofs.YtcpadkehalgddaaDoor.JoinSpec Go.Proofs.YtcpadkehalgddaaDoor.GetLabel Go.Proofs.YtcpadkehalgddaaDoor.BoxR Go.Proofs.YtcpadkehalgddaaDoor.NameOk Go.Proofs.YtcpadkehalgddaaDoor.TextR Go.Proofs.YtcpadkehalgddaaDoor.RecOk Go.Proofs.YtcpadkehalgddaaDoor.WireMath Go.Proofs.YtcpadkehalgddaaDoor.WireGood Go.Proofs.YtcpadkehalgddaaDoor.WalkSpec Go.Proofs.YtcpadkehalgddaaDoor.Get Go.Proofs.YtcpadkehalgddaaDoor.Label Go.Proofs.YtcpadkehalgddaaDoor.FieldMath Go.Proofs.YtcpadkehalgddaaDoor.FieldRd Go.Proofs.YtcpadkehalgddaaDoor.ResR Go.Proofs.YtcpadkehalgddaaDoor.GetI Go.Proofs.YtcpadkehalgddaaDoor.GetSA

set_option maxRecDepth 100000 in
set_option maxHeartbeats 2000000 in
theorem data_6 (A : Option Addr) (n c : Nat) (l : List UInt8) (k q : Int) (w : World) (hs : Sl w w.heap.size A n l) (hnc : n ≤ c) (hn : n ≤ 400000000) (h : 0 ≤ q ∧ q ≤ 255) (hk : ¬ (k < 0 ∨ (n : Int) - q < k)) :
    Calls Tryd.prog 31 #[.slice A n c, .int .i64 k, .int .i64 q, .int .i64 6] w fun e w' => e = .returned (val2 (gd l k q 6)) ∧ Below w.heap.size w w' := by
  have hl := hs.1
  have HI : Hid (decide ((0 : Int) ≤ q ∧ q ≤ 255) = true) := decide_eq_true h
  have HY : Hid (Types.ty 6 = true) := rfl
  have HX := Lib.hid (gd_6 h (by rw [hl]; exact hk))
  have GN := Lib.hid (fun W (hW : Below w.heap.size w W) => WalkSpec.getName A n c l k W _ rfl ((hs.below hW).wider hW.size) hn hnc)
  have G4 := Lib.hid (fun (q : Int) (W : World) (hW : Below w.heap.size w W) => get4 A n c l q W _ (hs.below hW) hn)
  have HIN := Lib.hid (fun q => n4_in (l := l) (k := q))
  have HL := Lib.hid hl
  generalize gd l k q 6 = X at *
  generalize rn l [] k k 0 (-1) = R at *
  obtain ⟨c0, L, p, j⟩ := R
  unfold val3 at GN
  dsimp only at GN HX
  generalize Jo L = s at *
  clear hs hl
  obtain ⟨h0, h1⟩ := h
  have hk0 : ¬ k < 0 := by omega
  have hk1 : ¬ (n : Int) - q < k := by omega
  clear hk
  go_enter Tryd.func31, Tryd.ntmps31
  go_wp2_with fail
  refine (l1In_any _ _ _ _).mono ?_
  rw [HI.out]
  rintro e w1 ⟨rfl, rfl⟩
  go_wp2_with fail
  refine (Types.spec_ok _ _).mono ?_
  rw [HY.out]
  rintro e w1 ⟨rfl, rfl⟩
  go_wp2_with fail
  refine (GN.out _ (low_c w 6)).mono ?_
  rintro e w1 ⟨rfl, hl⟩
  have L1 := Lib.hid ((low_c w 6).trans (hl.mono (low_c w 6).size))
  have Z1 := Lib.hid (Bk.below ((box_a w).alloc _) hl (by first | (simp; done) | (simp; omega)))
  have N1 := Lib.hid (Bk.below ((box_b w).alloc _) hl (by first | (simp; done) | (simp; omega)))
  have X1 := Lib.hid (Bk.below (box_c w 6) hl (box_c w 6).lt)
  clear hl GN
  obtain ⟨z0, z1, z2, z3, z4, z5⟩ := bx_of Z1.out
  obtain ⟨n0, n1, n2, n3, n4, n5⟩ := bx_of N1.out
  obtain ⟨x0, x1, x2, x3, x4, x5⟩ := bx_of X1.out
  have f0 := Z1.out.free 0
  have f1 := Z1.out.free 1
  have f2 := Z1.out.free 2
  have f3 := Z1.out.free 3
  have f4 := Z1.out.free 4
  have f5 := Z1.out.free 5
  have e3 := X1.out.free 3
  have e4 := X1.out.free 4
  have e5 := X1.out.free 5
  by_cases hc : c0 = 0
  · subst hc
    have HX2 := Lib.hid (HX.out.trans (if_neg (fun e => e rfl)))
    clear HX
    have Z2 := Lib.hid (Z1.out.other (p := ⟨w.heap.size + 1 + 1, 4, none⟩) (by show w.heap.size ≠ w.heap.size + 1 + 1; omega) (.string s))
    have N2 := Lib.hid (N1.out.other (p := ⟨w.heap.size + 1 + 1, 4, none⟩) (by show w.heap.size + 1 ≠ w.heap.size + 1 + 1; omega) (.string s))
    have X2 : Hid (Bk (w1.setCell ⟨w.heap.size + 1 + 1, 4, none⟩ (.string s)) (w.heap.size + 1 + 1) 25 (rc (rH 6 s))) := X1.out.set 4 (.string s)
    have L2 := Lib.hid (L1.out.setCell (p := ⟨w.heap.size + 1 + 1, 4, none⟩) (by show w.heap.size ≤ w.heap.size + 1 + 1; omega) (.string s))
    have G5 := Lib.hid (G4.out p (w1.setCell ⟨w.heap.size + 1 + 1, 4, none⟩ (.string s)) L2.out)
    have HIN5 := Lib.hid (HIN.out p)
    clear G4 HIN
    generalize FieldMath.n4 l p = y at *
    obtain ⟨x, b⟩ := y
    go_wp2_with fail
    refine G5.out.mono ?_
    rintro e w2 ⟨rfl, hl⟩
    have L3 := Lib.hid (L2.out.trans (hl.mono L2.out.size))
    have Z3 := Lib.hid (Z2.out.below hl Z2.out.lt)
    have N3 := Lib.hid (N2.out.below hl N2.out.lt)
    have X3 := Lib.hid (X2.out.below hl X2.out.lt)
    clear hl L2 Z2 N2 X2 L1 Z1 N1 X1 G5 z0 z1 z2 z3 z4 z5 n0 n1 n2 n3 n4 n5 x0 x1 x2 x3 x4 x5 f0 f1 f2 f3 f4 f5 e3 e4 e5
    obtain ⟨z0, z1, z2, z3, z4, z5⟩ := bx_of Z3.out
    obtain ⟨n0, n1, n2, n3, n4, n5⟩ := bx_of N3.out
    obtain ⟨x0, x1, x2, x3, x4, x5⟩ := bx_of X3.out
    have f0 := Z3.out.free 0
    have f1 := Z3.out.free 1
    have f2 := Z3.out.free 2
    have f3 := Z3.out.free 3
    have f4 := Z3.out.free 4
    have f5 := Z3.out.free 5
    have e3 := X3.out.free 3
    have e4 := X3.out.free 4
    have e5 := X3.out.free 5
    have Z4 := Lib.hid (Z3.out.other (p := ⟨w.heap.size + 1 + 1, 3, none⟩) (by show w.heap.size ≠ w.heap.size + 1 + 1; omega) (.int .i64 x))
    have L4 := Lib.hid (L3.out.setCell (p := ⟨w.heap.size + 1 + 1, 3, none⟩) (by show w.heap.size ≤ w.heap.size + 1 + 1; omega) (.int .i64 x))
    cases b
    · have HX3 : Hid (X = (2, zr)) := HX2.out.trans (if_neg (fun e => by simp at e))
      clear HX2
      go_wp2
      refine bodyPost_ret (v := val2 (2, zr)) (res2 rfl (fil_bk Z3.out zr) rfl rfl) rfl ⟨by rw [HX3.out], fil_below L3.out (Nat.le_refl _) zr⟩
    · obtain ⟨i0, i1⟩ := HIN5.out rfl
      rw [HL.out] at i1
      by_cases hq : p + 4 = k + q
      · have hq2 : (p + 4 != k + q) = false := by simp [hq]
        have HX3 : Hid (X = (0, rS s x)) := HX2.out.trans (if_pos ⟨rfl, hq⟩)
        clear HX2 hq
        go_wp2
        refine bodyPost_ret (v := val2 (0, rS s x)) (res2 rfl (fil_bk Z4.out (rS s x)) rfl rfl) rfl ⟨by rw [HX3.out], fil_below L4.out (Nat.le_refl _) (rS s x)⟩
      · have hq2 : (p + 4 != k + q) = true := by simpa using hq
        have HX3 : Hid (X = (2, zr)) := HX2.out.trans (if_neg (fun e => hq e.2))
        clear HX2 hq
        go_wp2
        refine bodyPost_ret (v := val2 (2, zr)) (res2 rfl (fil_bk Z4.out zr) rfl rfl) rfl ⟨by rw [HX3.out], fil_below L4.out (Nat.le_refl _) zr⟩
  · have HX2 := Lib.hid (HX.out.trans (if_pos hc))
    have hc2 : ((c0 : Int) != 0) = true := by simp; omega
    clear HX
    go_wp2
    refine bodyPost_ret (v := val2 (c0, zr)) (res2 rfl (fil_bk Z1.out zr) rfl rfl) rfl ⟨by rw [HX2.out], fil_below L1.out (Nat.le_refl _) zr⟩

end Go.Proofs.YtcpadkehalgddaaDoor.GetSD
