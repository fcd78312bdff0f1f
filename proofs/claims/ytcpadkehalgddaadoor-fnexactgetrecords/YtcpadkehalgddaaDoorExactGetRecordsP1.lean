/- What the law's own helpers eqRecord and eqRecordS do on records that are the same: they return true and turn nothing. Condition: fewer than 400000001 records. -/
import Derived.Test.YtcpadkehalgddaaDoorGetSA
import Derived.Test.YtcpadkehalgddaaDoorGetI
import Derived.Test.YtcpadkehalgddaaDoorGetSB
import Derived.Test.YtcpadkehalgddaaDoorGetsM
import Derived.Test.YtcpadkehalgddaaDoorMem
import Derived.Deep.QuietTactic
import Derived.BigQuiet
import Derived.Test.YtcpadkehalgddaaDoorMemR
import Derived.Lib.QuietBelow
/- What the model's GetData does, of one type each: as GetSA tells. -/
namespace Go.Proofs.YtcpadkehalgddaaDoor.GetSC
open Go.RowKit Go.Proofs.YtcpadkehalgddaaDoor.Mem Go.Proofs.YtcpadkehalgddaaDoor.MemR Go.Proofs.YtcpadkehalgddaaDoor.JoinSpec Go.Proofs.YtcpadkehalgddaaDoor.GetLabel Go.Proofs.YtcpadkehalgddaaDoor.BoxR Go.Proofs.YtcpadkehalgddaaDoor.NameOk Go.Proofs.YtcpadkehalgddaaDoor.TextR Go.Proofs.YtcpadkehalgddaaDoor.RecOk Go.Proofs.YtcpadkehalgddaaDoor.WireMath Go.Proofs.YtcpadkehalgddaaDoor.WireGood Go.Proofs.YtcpadkehalgddaaDoor.WalkSpec Go.Proofs.YtcpadkehalgddaaDoor.Get Go.Proofs.YtcpadkehalgddaaDoor.Label Go.Proofs.YtcpadkehalgddaaDoor.FieldMath Go.Proofs.YtcpadkehalgddaaDoor.FieldRd Go.Proofs.YtcpadkehalgddaaDoor.ResR Go.Proofs.YtcpadkehalgddaaDoor.GetI Go.Proofs.YtcpadkehalgddaaDoor.GetSA

set_option maxRecDepth 100000 in
set_option maxHeartbeats 2000000 in
theorem data_16 (A : Option Addr) (n c : Nat) (l : List UInt8) (k q : Int) (w : World) (hs : Sl w w.heap.size A n l) (hnc : n ≤ c) (hn : n ≤ 400000000) (h : 0 ≤ q ∧ q ≤ 255) (hk : ¬ (k < 0 ∨ (n : Int) - q < k)) :
    Calls Tryd.prog 31 #[.slice A n c, .int .i64 k, .int .i64 q, .int .i64 16] w fun e w' => e = .returned (val2 (gd l k q 16)) ∧ Below w.heap.size w w' := by
  have hl := hs.1
  have HI : Hid (decide ((0 : Int) ≤ q ∧ q ≤ 255) = true) := decide_eq_true h
  have HY : Hid (Types.ty 16 = true) := rfl
  have HX := Lib.hid (gd_16 h (by rw [hl]; exact hk))
  obtain ⟨h0, h1⟩ := h
  have hk0 : ¬ k < 0 := by omega
  have hk1 : ¬ (n : Int) - q < k := by omega
  obtain ⟨k', rfl⟩ := Int.eq_ofNat_of_zero_le (show 0 ≤ k by omega)
  obtain ⟨q', rfl⟩ := Int.eq_ofNat_of_zero_le h0
  generalize gd l (k' : Int) (q' : Int) 16 = X at *
  clear hk
  by_cases hq : q' < 1
  · have hq2 : (q' : Int) < 1 := by omega
    have HX2 : Hid (X = (2, zr)) := HX.out.trans (if_neg (fun e => by omega))
    clear HX hs hl
    go_enter Tryd.func31, Tryd.ntmps31
    go_wp2_with fail
    refine (l1In_any _ _ _ _).mono ?_
    rw [HI.out]
    rintro e w1 ⟨rfl, rfl⟩
    go_wp2_with fail
    refine (Types.spec_ok _ _).mono ?_
    rw [HY.out]
    rintro e w1 ⟨rfl, rfl⟩
    go_wp2
    refine bodyPost_ret (v := val2 (2, zr)) (res2 rfl ((box_a w).alloc _) rfl rfl) rfl ⟨by rw [HX2.out], low_c w 16⟩
  · have hq2 : ¬ (q' : Int) < 1 := by omega
    have hkl : k' < l.length := by omega
    have hkn : k' < n := by omega
    have HX2 : Hid (X = if (l[k'].toNat : Int) = (q' : Int) - 1 ∧ txo (piece l k' (q' - 1)) = true then (0, rT (piece l k' (q' - 1))) else (2, zr)) := by
      show _ = _
      rw [HX.out, ReadI.bt_at l k' hkl, Int.toNat_natCast, show ((q' : Int) - 1).toNat = q' - 1 by omega]
      by_cases hb : (l[k'].toNat : Int) = (q' : Int) - 1
      · by_cases ht : txo (piece l k' (q' - 1)) = true
        · rw [if_pos ⟨by omega, hb, ht⟩, if_pos ⟨hb, ht⟩]
        · rw [if_neg (fun e => ht e.2.2), if_neg (fun e => ht e.2)]
      · rw [if_neg (fun e => hb e.2.1), if_neg (fun e => hb e.1)]
    obtain ⟨b, off, rfl, hbB, hcs⟩ := hs.2 (by omega)
    have hx : w.cell? ⟨b, off + k', none⟩ = some (.int .u8 (l[k'].toNat : Int)) := hcs k' hkl
    have hx2 : (((w.alloc (.cells #[.string ⟨#[]⟩, .int .i64 0, .int .i64 0, .int .i64 0, .string ⟨#[]⟩, .string ⟨#[]⟩] 25)).alloc (.cells #[.string ⟨#[]⟩, .int .i64 0, .int .i64 0, .int .i64 0, .string ⟨#[]⟩, .string ⟨#[]⟩] 25)).alloc (.cells #[.string ⟨#[]⟩, .int .i64 16, .int .i64 0, .int .i64 0, .string ⟨#[]⟩, .string ⟨#[]⟩] 25)).cell? ⟨b, off + k', none⟩ = some (.int .u8 (l[k'].toNat : Int)) := ((low_c w 16).cell (p := ⟨b, off + k', none⟩) hbB).trans hx
    have hb1 : l[k'].toNat < 256 := l[k'].toNat_lt
    have HS := Lib.hid ((hs.below (low_c w 16)).wider (low_c w 16).size)
    clear HX hs hcs hl hx
    generalize l[k'].toNat = m at *
    by_cases hm : (m : Int) = (q' : Int) - 1
    · have hm2 : ((m : Int) != (q' : Int) - 1) = false := by simp [hm]
      obtain rfl : q' = m + 1 := by omega
      have hin : k' + 1 + m ≤ n := by omega
      have HI : Hid (decide ((0 : Int) ≤ (m : Int) + 1 ∧ (m : Int) + 1 ≤ 255) = true) := decide_eq_true (by omega)
      have hps := piece_le l k' m
      have HX3 : Hid (X = if txo (piece l k' m) = true then (0, rT (piece l k' m)) else (2, zr)) := by
        show _ = _
        rw [HX2.out, show m + 1 - 1 = m by omega]
        by_cases ht : txo (piece l k' m) = true
        · rw [if_pos ⟨by omega, ht⟩, if_pos ht]
        · rw [if_neg (fun e => ht e.2), if_neg ht]
      clear HX2 hm
      have hck := Classical.em (c = k' + 1)
      rcases hck with hck | hck
      · obtain rfl : m = 0 := by omega
        have hcv := fun A cap => conv_none (w := ((w.alloc (.cells #[.string ⟨#[]⟩, .int .i64 0, .int .i64 0, .int .i64 0, .string ⟨#[]⟩, .string ⟨#[]⟩] 25)).alloc (.cells #[.string ⟨#[]⟩, .int .i64 0, .int .i64 0, .int .i64 0, .string ⟨#[]⟩, .string ⟨#[]⟩] 25)).alloc (.cells #[.string ⟨#[]⟩, .int .i64 16, .int .i64 0, .int .i64 0, .string ⟨#[]⟩, .string ⟨#[]⟩] 25)) A cap l k'
        generalize piece l k' 0 = T at *
        obtain ⟨u, hu⟩ : ∃ u, txo T = u := ⟨_, rfl⟩
        have HU := Lib.hid hu
        rw [hu] at HX3
        clear hu
        go_enter Tryd.func31, Tryd.ntmps31
        go_wp2_with fail
        refine (l1In_any _ _ _ _).mono ?_
        rw [show (decide ((0 : Int) ≤ 1 ∧ (1 : Int) ≤ 255)) = true from by decide]
        rintro e w1 ⟨rfl, rfl⟩
        go_wp2_with fail
        refine (Types.spec_ok _ _).mono ?_
        rw [HY.out]
        rintro e w1 ⟨rfl, rfl⟩
        go_wp2_with fail
        refine (TextR.spec T _ (by omega)).mono ?_
        rw [HU.out]
        rintro e w1 ⟨rfl, rfl⟩
        cases u
        · go_wp2
          refine bodyPost_ret (v := val2 (2, zr)) (res2 rfl ((box_a w).alloc _) rfl rfl) rfl ⟨by rw [HX3.out]; rfl, (low_b w).alloc (by first | (simp; done) | (simp; omega)) _⟩
        · go_wp2
          refine bodyPost_ret (v := val2 (0, rT T)) (res2 rfl (((show Bk _ w.heap.size 25 (rc (rT T)) from heap_alloc_new w _).alloc _).alloc _) rfl rfl) rfl ⟨by rw [HX3.out]; rfl, (((Below.refl _ _).alloc (Nat.le_refl _) _).alloc (by simp) _).alloc (by first | (simp; done) | (simp; omega)) _⟩
      · have hcv : ∀ cap, (convert 22 9 (.slice (some ⟨b, off + (k' + 1), none⟩) (k' + (m + 1) - (k' + 1)) cap)).run Tryd.prog _ = .ok (.string (piece l k' m)) _ := fun cap => by rw [show k' + (m + 1) - (k' + 1) = m by omega]; exact conv_piece HS.out k' m cap hin
        generalize piece l k' m = T at *
        obtain ⟨u, hu⟩ : ∃ u, txo T = u := ⟨_, rfl⟩
        have HU := Lib.hid hu
        rw [hu] at HX3
        clear hu
        go_enter Tryd.func31, Tryd.ntmps31
        go_wp2_with fail
        refine (l1In_any _ _ _ _).mono ?_
        rw [HI.out]
        rintro e w1 ⟨rfl, rfl⟩
        go_wp2_with fail
        refine (Types.spec_ok _ _).mono ?_
        rw [HY.out]
        rintro e w1 ⟨rfl, rfl⟩
        go_wp2_with fail
        refine (TextR.spec T _ (by omega)).mono ?_
        rw [HU.out]
        rintro e w1 ⟨rfl, rfl⟩
        cases u
        · go_wp2
          refine bodyPost_ret (v := val2 (2, zr)) (res2 rfl ((box_a w).alloc _) rfl rfl) rfl ⟨by rw [HX3.out]; rfl, (low_b w).alloc (by first | (simp; done) | (simp; omega)) _⟩
        · go_wp2
          refine bodyPost_ret (v := val2 (0, rT T)) (res2 rfl (((show Bk _ w.heap.size 25 (rc (rT T)) from heap_alloc_new w _).alloc _).alloc _) rfl rfl) rfl ⟨by rw [HX3.out]; rfl, (((Below.refl _ _).alloc (Nat.le_refl _) _).alloc (by simp) _).alloc (by first | (simp; done) | (simp; omega)) _⟩
    · have hm2 : ((m : Int) != (q' : Int) - 1) = true := by simpa using hm
      have HX3 : Hid (X = (2, zr)) := HX2.out.trans (if_neg (fun e => hm e.1))
      clear HX2 hm
      go_enter Tryd.func31, Tryd.ntmps31
      go_wp2_with fail
      refine (l1In_any _ _ _ _).mono ?_
      rw [HI.out]
      rintro e w1 ⟨rfl, rfl⟩
      go_wp2_with fail
      refine (Types.spec_ok _ _).mono ?_
      rw [HY.out]
      rintro e w1 ⟨rfl, rfl⟩
      go_wp2
      refine bodyPost_ret (v := val2 (2, zr)) (res2 rfl ((box_a w).alloc _) rfl rfl) rfl ⟨by rw [HX3.out], low_c w 16⟩

end Go.Proofs.YtcpadkehalgddaaDoor.GetSC

/- What the model's GetData does, of one type each: as GetSA tells. -/
namespace Go.Proofs.YtcpadkehalgddaaDoor.GetSD
open Go.RowKit Go.Proofs.YtcpadkehalgddaaDoor.Mem Go.Proofs.YtcpadkehalgddaaDoor.MemR Go.Proofs.YtcpadkehalgddaaDoor.JoinSpec Go.Proofs.YtcpadkehalgddaaDoor.GetLabel Go.Proofs.YtcpadkehalgddaaDoor.BoxR Go.Proofs.YtcpadkehalgddaaDoor.NameOk Go.Proofs.YtcpadkehalgddaaDoor.TextR Go.Proofs.YtcpadkehalgddaaDoor.RecOk Go.Proofs.YtcpadkehalgddaaDoor.WireMath Go.Proofs.YtcpadkehalgddaaDoor.WireGood Go.Proofs.YtcpadkehalgddaaDoor.WalkSpec Go.Proofs.YtcpadkehalgddaaDoor.Get Go.Proofs.YtcpadkehalgddaaDoor.Label Go.Proofs.YtcpadkehalgddaaDoor.FieldMath Go.Proofs.YtcpadkehalgddaaDoor.FieldRd Go.Proofs.YtcpadkehalgddaaDoor.ResR Go.Proofs.YtcpadkehalgddaaDoor.GetI Go.Proofs.YtcpadkehalgddaaDoor.GetSA

set_option maxRecDepth 100000 in
set_option maxHeartbeats 2000000 in
theorem data_6 (A : Option Addr) (n c : Nat) (l : List UInt8) (k q : Int) (w : World) (hs : Sl w w.heap.size A n l) (hnc : n ≤ c) (hn : n ≤ 400000000) (h : 0 ≤ q ∧ q ≤ 255) (hk : ¬ (k < 0 ∨ (n : Int) - q < k)) :
    Calls Tryd.prog 31 #[.slice A n c, .int .i64 k, .int .i64 q, .int .i64 6] w fun e w' => e = .returned (val2 (gd l k q 6)) ∧ Below w.heap.size w w' := by
  have hl := hs.1
  have HI : Hid (decide ((0 : Int) ≤ q ∧ q ≤ 255) = true) := decide_eq_true h
  have HY : Hid (Types.ty 6 = true) := rfl
  have HX := Lib.hid (gd_6 h (by rw [hl]; exact hk))
  have GN := Lib.hid (fun W (hW : Below w.heap.size w W) => WalkSpec.getName A n c l k W _ rfl ((hs.below hW).wider hW.size) hn hnc)
  have G4 := Lib.hid (fun (q : Int) (W : World) (hW : Below w.heap.size w W) => get4 A n c l q W _ (hs.below hW) hn)
  have HIN := Lib.hid (fun q => n4_in (l := l) (k := q))
  have HL := Lib.hid hl
  generalize gd l k q 6 = X at *
  generalize rn l [] k k 0 (-1) = R at *
  obtain ⟨c0, L, p, j⟩ := R
  unfold val3 at GN
  dsimp only at GN HX
  generalize Jo L = s at *
  clear hs hl
  obtain ⟨h0, h1⟩ := h
  have hk0 : ¬ k < 0 := by omega
  have hk1 : ¬ (n : Int) - q < k := by omega
  clear hk
  go_enter Tryd.func31, Tryd.ntmps31
  go_wp2_with fail
  refine (l1In_any _ _ _ _).mono ?_
  rw [HI.out]
  rintro e w1 ⟨rfl, rfl⟩
  go_wp2_with fail
  refine (Types.spec_ok _ _).mono ?_
  rw [HY.out]
  rintro e w1 ⟨rfl, rfl⟩
  go_wp2_with fail
  refine (GN.out _ (low_c w 6)).mono ?_
  rintro e w1 ⟨rfl, hl⟩
  have L1 := Lib.hid ((low_c w 6).trans (hl.mono (low_c w 6).size))
  have Z1 := Lib.hid (Bk.below ((box_a w).alloc _) hl (by first | (simp; done) | (simp; omega)))
  have N1 := Lib.hid (Bk.below ((box_b w).alloc _) hl (by first | (simp; done) | (simp; omega)))
  have X1 := Lib.hid (Bk.below (box_c w 6) hl (box_c w 6).lt)
  clear hl GN
  obtain ⟨z0, z1, z2, z3, z4, z5⟩ := bx_of Z1.out
  obtain ⟨n0, n1, n2, n3, n4, n5⟩ := bx_of N1.out
  obtain ⟨x0, x1, x2, x3, x4, x5⟩ := bx_of X1.out
  have f0 := Z1.out.free 0
  have f1 := Z1.out.free 1
  have f2 := Z1.out.free 2
  have f3 := Z1.out.free 3
  have f4 := Z1.out.free 4
  have f5 := Z1.out.free 5
  have e3 := X1.out.free 3
  have e4 := X1.out.free 4
  have e5 := X1.out.free 5
  by_cases hc : c0 = 0
  · subst hc
    have HX2 := Lib.hid (HX.out.trans (if_neg (fun e => e rfl)))
    clear HX
    have Z2 := Lib.hid (Z1.out.other (p := ⟨w.heap.size + 1 + 1, 4, none⟩) (by show w.heap.size ≠ w.heap.size + 1 + 1; omega) (.string s))
    have N2 := Lib.hid (N1.out.other (p := ⟨w.heap.size + 1 + 1, 4, none⟩) (by show w.heap.size + 1 ≠ w.heap.size + 1 + 1; omega) (.string s))
    have X2 : Hid (Bk (w1.setCell ⟨w.heap.size + 1 + 1, 4, none⟩ (.string s)) (w.heap.size + 1 + 1) 25 (rc (rH 6 s))) := X1.out.set 4 (.string s)
    have L2 := Lib.hid (L1.out.setCell (p := ⟨w.heap.size + 1 + 1, 4, none⟩) (by show w.heap.size ≤ w.heap.size + 1 + 1; omega) (.string s))
    have G5 := Lib.hid (G4.out p (w1.setCell ⟨w.heap.size + 1 + 1, 4, none⟩ (.string s)) L2.out)
    have HIN5 := Lib.hid (HIN.out p)
    clear G4 HIN
    generalize FieldMath.n4 l p = y at *
    obtain ⟨x, b⟩ := y
    go_wp2_with fail
    refine G5.out.mono ?_
    rintro e w2 ⟨rfl, hl⟩
    have L3 := Lib.hid (L2.out.trans (hl.mono L2.out.size))
    have Z3 := Lib.hid (Z2.out.below hl Z2.out.lt)
    have N3 := Lib.hid (N2.out.below hl N2.out.lt)
    have X3 := Lib.hid (X2.out.below hl X2.out.lt)
    clear hl L2 Z2 N2 X2 L1 Z1 N1 X1 G5 z0 z1 z2 z3 z4 z5 n0 n1 n2 n3 n4 n5 x0 x1 x2 x3 x4 x5 f0 f1 f2 f3 f4 f5 e3 e4 e5
    obtain ⟨z0, z1, z2, z3, z4, z5⟩ := bx_of Z3.out
    obtain ⟨n0, n1, n2, n3, n4, n5⟩ := bx_of N3.out
    obtain ⟨x0, x1, x2, x3, x4, x5⟩ := bx_of X3.out
    have f0 := Z3.out.free 0
    have f1 := Z3.out.free 1
    have f2 := Z3.out.free 2
    have f3 := Z3.out.free 3
    have f4 := Z3.out.free 4
    have f5 := Z3.out.free 5
    have e3 := X3.out.free 3
    have e4 := X3.out.free 4
    have e5 := X3.out.free 5
    have Z4 := Lib.hid (Z3.out.other (p := ⟨w.heap.size + 1 + 1, 3, none⟩) (by show w.heap.size ≠ w.heap.size + 1 + 1; omega) (.int .i64 x))
    have L4 := Lib.hid (L3.out.setCell (p := ⟨w.heap.size + 1 + 1, 3, none⟩) (by show w.heap.size ≤ w.heap.size + 1 + 1; omega) (.int .i64 x))
    cases b
    · have HX3 : Hid (X = (2, zr)) := HX2.out.trans (if_neg (fun e => by simp at e))
      clear HX2
      go_wp2
      refine bodyPost_ret (v := val2 (2, zr)) (res2 rfl (fil_bk Z3.out zr) rfl rfl) rfl ⟨by rw [HX3.out], fil_below L3.out (Nat.le_refl _) zr⟩
    · obtain ⟨i0, i1⟩ := HIN5.out rfl
      rw [HL.out] at i1
      by_cases hq : p + 4 = k + q
      · have hq2 : (p + 4 != k + q) = false := by simp [hq]
        have HX3 : Hid (X = (0, rS s x)) := HX2.out.trans (if_pos ⟨rfl, hq⟩)
        clear HX2 hq
        go_wp2
        refine bodyPost_ret (v := val2 (0, rS s x)) (res2 rfl (fil_bk Z4.out (rS s x)) rfl rfl) rfl ⟨by rw [HX3.out], fil_below L4.out (Nat.le_refl _) (rS s x)⟩
      · have hq2 : (p + 4 != k + q) = true := by simpa using hq
        have HX3 : Hid (X = (2, zr)) := HX2.out.trans (if_neg (fun e => hq e.2))
        clear HX2 hq
        go_wp2
        refine bodyPost_ret (v := val2 (2, zr)) (res2 rfl (fil_bk Z4.out zr) rfl rfl) rfl ⟨by rw [HX3.out], fil_below L4.out (Nat.le_refl _) zr⟩
  · have HX2 := Lib.hid (HX.out.trans (if_pos hc))
    have hc2 : ((c0 : Int) != 0) = true := by simp; omega
    clear HX
    go_wp2
    refine bodyPost_ret (v := val2 (c0, zr)) (res2 rfl (fil_bk Z1.out zr) rfl rfl) rfl ⟨by rw [HX2.out], fil_below L1.out (Nat.le_refl _) zr⟩

end Go.Proofs.YtcpadkehalgddaaDoor.GetSD

/- What the program's GetRecord does: it reads a record as FieldMath tells (gr), and turns nothing that was there. Conditions: at most 400000000 bytes; the library's variable internal/bytealg.MaxLen holds an int. -/
namespace Go.Proofs.YtcpadkehalgddaaDoor.GetRecI
open Go.RowKit Go.Proofs.YtcpadkehalgddaaDoor.Mem Go.Proofs.YtcpadkehalgddaaDoor.MemR Go.Proofs.YtcpadkehalgddaaDoor.JoinSpec Go.Proofs.YtcpadkehalgddaaDoor.Labels Go.Proofs.YtcpadkehalgddaaDoor.BoxR Go.Proofs.YtcpadkehalgddaaDoor.NameOk Go.Proofs.YtcpadkehalgddaaDoor.TextR Go.Proofs.YtcpadkehalgddaaDoor.RecOk Go.Proofs.YtcpadkehalgddaaDoor.WireMath Go.Proofs.YtcpadkehalgddaaDoor.WireGood Go.Proofs.YtcpadkehalgddaaDoor.WalkSpec Go.Proofs.YtcpadkehalgddaaDoor.Get Go.Proofs.YtcpadkehalgddaaDoor.FieldMath Go.Proofs.YtcpadkehalgddaaDoor.FieldRd Go.Proofs.YtcpadkehalgddaaDoor.ResR Go.Proofs.YtcpadkehalgddaaDoor.ReadI Go.Proofs.YtcpadkehalgddaaDoor.GetI

theorem get2 (A : Option Addr) (n c : Nat) (l : List UInt8) (k : Int) (w : World) (B : Nat) (hs : Sl w B A n l) (hnc : n ≤ c) (hn : n ≤ 400000000) :
    Calls Tryd.prog 84 #[.slice A n c, .int .i64 k] w fun e w' => e = .returned (.tuple #[.int .i64 (n2 l k).1, .bool (n2 l k).2]) ∧ w = w' := by
  have hl := hs.1
  unfold n2
  by_cases h : 0 ≤ k ∧ k ≤ (l.length : Int) - 2
  · rw [if_pos h]
    obtain ⟨j, rfl⟩ := Int.eq_ofNat_of_zero_le h.1
    exact implGet2_yes A n c l w B j hs hnc hn (by omega)
  · rw [if_neg h]
    exact implGet2_no A n c w k hn (by omega)
/-- What GetRecord hands back. A def, so that no step of a walk opens it. -/
def valR (X : Nat × Int × Rec) : Value := .tuple #[.agg #[.string (X.2.2).name, .int .i64 (X.2.2).ty, .int .i64 (X.2.2).ttl, .int .i64 (X.2.2).n, .string (X.2.2).host, .string (X.2.2).text], .int .i64 X.2.1, .int .i64 (X.1 : Int)]
theorem rn_from {l : List UInt8} {k : Int} {L : List ByteArray} {x : Int} {j : Nat} (h : rn l [] k k 0 (-1) = (0, L, x, j)) : 0 ≤ k := by
  refine Decidable.byContradiction fun hk => ?_
  rw [rn_out (Or.inl (by omega))] at h
  simp at h
/-- A valid record's texts are not long; what GetData gives is not. -/
theorem gd_med {l : List UInt8} {k n ty : Int} {r : Rec} (h : fx (gd l k n ty) = (0, r)) : DataS.Med r := by
  by_cases hn : 0 ≤ n ∧ n ≤ 255
  · by_cases hk : k < 0 ∨ (l.length : Int) - n < k
    · rw [gd_out hn hk, fx_bad (by decide)] at h
      simp at h
    · rw [rdd_gd hn hk] at h
      split at h
      · rename_i hc
        simp only [Prod.mk.injEq] at h
        exact absurd h.1 hc
      · rename_i hc
        split at h
        · simp only [Prod.mk.injEq, true_and] at h
          rw [← h]
          exact rdd_mod l k ty (Decidable.byContradiction hc)
        · simp at h
  · rw [gd_n hn, fx_bad (by decide)] at h
    simp at h
theorem fx_cases (X : Nat × Rec) : (fx X = X ∧ (X.1 = 0 → rok X.2 = true)) ∨ (fx X = (2, zr) ∧ X.1 = 0 ∧ rok X.2 = false) := by
  unfold fx
  split
  · rename_i h
    exact Or.inr ⟨rfl, h⟩
  · rename_i h
    exact Or.inl ⟨rfl, fun e => by cases hr : rok X.2; exact absurd ⟨e, hr⟩ h; rfl⟩

/-- What is known behind the head of a record: its answer, told of what GetData gave. -/
theorem gr_by {l : List UInt8} {k : Int} {L : List ByteArray} {p : Int} {j c : Nat} {r : Rec} (h : rn l [] k k 0 (-1) = (0, L, p, j)) (hp : ¬ (l.length : Int) - 10 < p) (hd : fx (gd l (p + 10) (n2 l (p + 8)).1 (n2 l p).1) = (c, r)) :
    gr l k = if c ≠ 0 then (c, 0, zr) else if (n4 l (p + 4)).2 = true ∧ (n2 l (p + 2)).1 = 1 ∧ rok (wn r (Jo L) (n4 l (p + 4)).1) = true then (0, p + 10 + (n2 l (p + 8)).1, wn r (Jo L) (n4 l (p + 4)).1) else (2, 0, zr) := by
  rcases fx_cases (gd l (p + 10) (n2 l (p + 8)).1 (n2 l p).1) with ⟨e, hr⟩ | ⟨e, h0, hr⟩
  · rw [e] at hd
    by_cases hc : c ≠ 0
    · rw [if_pos hc]
      exact gr_data h hp hd hc
    · have hc0 : c = 0 := Decidable.byContradiction hc
      subst hc0
      rw [if_neg hc]
      split
      · rename_i hg
        exact gr_good h hp hd hg
      · rename_i hg
        exact gr_form h hp hd hg
  · rw [e] at hd
    simp only [Prod.mk.injEq] at hd
    obtain ⟨rfl, rfl⟩ := hd
    rw [if_pos (by decide)]
    generalize hD : gd l (p + 10) (n2 l (p + 8)).1 (n2 l p).1 = D at *
    obtain ⟨c', r'⟩ := D
    have h0 : c' = 0 := h0
    subst h0
    exact gr_form h hp hD (fun hg => by rw [rok_wn hD hr] at hg; exact absurd hg.2.2 (by decide))

set_option maxRecDepth 100000 in
set_option maxHeartbeats 4000000 in
theorem record (A : Option Addr) (n c : Nat) (l : List UInt8) (k : Int) (w : World) (he : Env w) (hs : Sl w w.heap.size A n l) (hnc : n ≤ c) (hn : n ≤ 400000000) :
    Calls Tryd.prog 38 #[.slice A n c, .int .i64 k] w fun e w' => e = .returned (valR (gr l k)) ∧ Below w.heap.size w w' := by
  have hl := hs.1
  have L0 := Lib.hid ((Below.refl w.heap.size w).alloc (Nat.le_refl _) (.cells #[.string ⟨#[]⟩, .int .i64 0, .int .i64 0, .int .i64 0, .string ⟨#[]⟩, .string ⟨#[]⟩] 25))
  have Z0 : Hid (Bk (w.alloc (.cells #[.string ⟨#[]⟩, .int .i64 0, .int .i64 0, .int .i64 0, .string ⟨#[]⟩, .string ⟨#[]⟩] 25)) w.heap.size 25 (rc zr)) := heap_alloc_new w _
  have HS := Lib.hid hs
  have HE := Lib.hid he
  have GN := Lib.hid (fun W (hW : Below w.heap.size w W) => NameGet.getName A n c l k W _ rfl (he.below hW) ((hs.below hW).wider hW.size) hn hnc)
  generalize hR : rn l [] k k 0 (-1) = R at *
  obtain ⟨c0, L, p, j⟩ := R
  unfold val3 at GN
  dsimp only at GN
  by_cases hc : c0 = 0
  · subst hc
    have HF := rn_from hR
    obtain ⟨_, _, hp1, hp2, _⟩ := rn_good hR
    have hp0 : 0 ≤ p := by omega
    rw [hl] at hp2
    clear hp1 HF
    by_cases hs10 : (n : Int) - 10 < p
    · have HX := Lib.hid (gr_short hR (by rw [hl]; exact hs10))
      generalize gr l k = X at *
      generalize Jo L = s at *
      clear hs hl he hR
      go_enter Tryd.func38, Tryd.ntmps38
      go_wp2_with fail
      refine (GN.out _ L0.out).mono ?_
      rintro e w1 ⟨rfl, hl⟩
      have L1 := Lib.hid (L0.out.trans (hl.mono L0.out.size))
      have Z1 := Lib.hid (Z0.out.below hl Z0.out.lt)
      clear hl L0 Z0
      obtain ⟨z0, z1, z2, z3, z4, z5⟩ := bx_of Z1.out
      have f0 := Z1.out.free 0
      have f1 := Z1.out.free 1
      have f2 := Z1.out.free 2
      have f3 := Z1.out.free 3
      have f4 := Z1.out.free 4
      have f5 := Z1.out.free 5
      go_wp2
      refine bodyPost_ret (v := valR (1, 0, zr)) (res3 rfl (fil_bk Z1.out zr) rfl rfl rfl) rfl ⟨by rw [HX.out], fil_below L1.out (Nat.le_refl _) zr⟩
    · have HG2 := Lib.hid (fun (q : Int) (W : World) (hW : Below w.heap.size w W) => get2 A n c l q W _ (hs.below hW) hnc hn)
      have HG4 := Lib.hid (fun (q : Int) (W : World) (hW : Below w.heap.size w W) => get4 A n c l q W _ (hs.below hW) hnc hn)
      have HGD := Lib.hid (fun (q m t : Int) (W : World) (hW : Below w.heap.size w W) => GetI.data A n c l q m t W (he.below hW) ((hs.below hW).wider hW.size) hnc hn)
      generalize hD : fx (gd l (p + 10) (n2 l (p + 8)).1 (n2 l p).1) = D at *
      obtain ⟨dc, yr⟩ := D
      have HX := Lib.hid (gr_by hR (by rw [hl]; exact hs10) hD)
      have HM := Lib.hid (fun (e : dc = 0) => gd_med (r := yr) (by rw [hD, e]))
      have HNL : Hid ((Jo L).size ≤ 50) := (Plain.nm_parts (rn_good hR).2.1).1
      have h1 := (n2_in (l := l) (k := p) hp0 (by omega)).2
      have h2 := (n2_in (l := l) (k := p + 2) (by omega) (by omega)).2
      have h8 := (n2_in (l := l) (k := p + 8) (by omega) (by omega)).2
      have hG1 := HG2.out p
      have hG2 := HG2.out (p + 2)
      have hG8 := HG2.out (p + 8)
      have hG4 := HG4.out (p + 4)
      have hGD := HGD.out (p + 10) (n2 l (p + 8)).1 (n2 l p).1
      rw [hD] at hGD
      generalize gr l k = X at *
      generalize Jo L = s at *
      clear hD
      generalize n2 l p = y1 at *
      generalize n2 l (p + 2) = y2 at *
      generalize n2 l (p + 8) = y8 at *
      generalize n4 l (p + 4) = y4 at *
      obtain ⟨ty, b1⟩ := y1
      obtain ⟨cl, b2⟩ := y2
      obtain ⟨q, b8⟩ := y8
      obtain ⟨tt, b4⟩ := y4
      dsimp only at h1 h2 h8 hG1 hG2 hG8 hG4 hGD HX
      obtain ⟨h10, h11⟩ := h1
      obtain ⟨h20, h21⟩ := h2
      obtain ⟨h80, h81⟩ := h8
      have G1 := Lib.hid hG1
      have G2 := Lib.hid hG2
      have G8 := Lib.hid hG8
      have G4 := Lib.hid hG4
      have GD := Lib.hid hGD
      clear hG1 hG2 hG8 hG4 hGD HG2 HG4 HGD hs hl he hR
      go_enter Tryd.func38, Tryd.ntmps38
      go_wp2_with fail
      refine (GN.out _ L0.out).mono ?_
      rintro e w1 ⟨rfl, hl⟩
      have L1 := Lib.hid (L0.out.trans (hl.mono L0.out.size))
      have Z1 := Lib.hid (Z0.out.below hl Z0.out.lt)
      clear hl L0 Z0
      go_wp2_with fail
      refine (G1.out _ L1.out).mono ?_
      rintro e w2 ⟨rfl, rfl⟩
      go_wp2_with fail
      refine (G2.out _ L1.out).mono ?_
      rintro e w2 ⟨rfl, rfl⟩
      go_wp2_with fail
      refine (G4.out _ L1.out).mono ?_
      rintro e w2 ⟨rfl, rfl⟩
      go_wp2_with fail
      refine (G8.out _ L1.out).mono ?_
      rintro e w2 ⟨rfl, rfl⟩
      go_wp2_with fail
      refine (GD.out _ L1.out).mono ?_
      rintro e w2 ⟨rfl, hl⟩
      have L2 := Lib.hid (L1.out.trans (hl.mono L1.out.size))
      have Z2 := Lib.hid (Z1.out.below hl Z1.out.lt)
      clear hl L1 Z1 G1 G2 G4 G8 GD GN
      unfold val2
      dsimp only
      by_cases hdc : dc = 0
      · subst hdc
        have HX2 := Lib.hid (HX.out.trans (if_neg (fun e => e rfl)))
        have hmed := HM.out rfl
        have RO := Lib.hid (fun W (hW : Below w.heap.size w W) => RecOk.impl (wn yr s tt) W (HE.out.below hW) (show Mod (wn yr s tt) from ⟨Nat.le_trans HNL.out (by decide), (hmed.mod).2.1, (hmed.mod).2.2⟩))
        unfold wn at RO
        dsimp only at RO
        have L3 := Lib.hid (L2.out.alloc L2.out.size (.cells #[.string s, .int .i64 yr.ty, .int .i64 tt, .int .i64 yr.n, .string yr.host, .string yr.text] 25))
        have Z3 := Lib.hid (Z2.out.alloc (.cells #[.string s, .int .i64 yr.ty, .int .i64 tt, .int .i64 yr.n, .string yr.host, .string yr.text] 25))
        have X3 := Lib.hid (bx_new w2 25 (wn yr s tt))
        clear HX HM hmed
        obtain ⟨z0, z1, z2, z3, z4, z5⟩ := bx_of Z3.out
        have f0 := Z3.out.free 0
        have f1 := Z3.out.free 1
        have f2 := Z3.out.free 2
        have f3 := Z3.out.free 3
        have f4 := Z3.out.free 4
        have f5 := Z3.out.free 5
        by_cases hcl : cl = 1
        · have hcl2 : (cl != 1) = false := by simp [hcl]
          cases b4
          · have HX3 : Hid (X = (2, 0, zr)) := HX2.out.trans (if_neg (fun e => by simp at e))
            clear HX2
            go_wp2
            refine bodyPost_ret (v := valR (2, 0, zr)) (res3 rfl (fil_bk Z3.out zr) rfl rfl rfl) rfl ⟨by rw [HX3.out], fil_below L3.out (Nat.le_refl _) zr⟩
          · obtain ⟨u, hu⟩ : ∃ u, rok (wn yr s tt) = u := ⟨_, rfl⟩
            have HU := Lib.hid hu
            have HX3 : Hid (X = if u = true then (0, p + 10 + q, wn yr s tt) else (2, 0, zr)) := by
              show _ = _
              rw [HX2.out, hu]
              cases u <;> simp [hcl]
            clear hu HX2 hcl
            go_wp2_with fail
            refine (RO.out _ L3.out).mono ?_
            rw [show rok ⟨s, yr.ty, tt, yr.n, yr.host, yr.text⟩ = u from HU.out]
            rintro e w4 ⟨rfl, hl⟩
            have L4 := Lib.hid (L3.out.trans (hl.mono L3.out.size))
            have Z4 := Lib.hid (Z3.out.below hl Z3.out.lt)
            have X4 := Lib.hid (X3.out.below hl)
            clear hl L3 Z3 X3 z0 z1 z2 z3 z4 z5 f0 f1 f2 f3 f4 f5
            obtain ⟨z0, z1, z2, z3, z4, z5⟩ := bx_of Z4.out
            have f0 := Z4.out.free 0
            have f1 := Z4.out.free 1
            have f2 := Z4.out.free 2
            have f3 := Z4.out.free 3
            have f4 := Z4.out.free 4
            have f5 := Z4.out.free 5
            cases u
            · go_wp2
              refine bodyPost_ret (v := valR (2, 0, zr)) (res3 rfl (fil_bk Z4.out zr) rfl rfl rfl) rfl ⟨by rw [HX3.out]; rfl, fil_below L4.out (Nat.le_refl _) zr⟩
            · obtain ⟨x0, x1, x2, x3, x4, x5⟩ := X4.out
              have x0 : w4.cell? ⟨w2.heap.size, 0, none⟩ = some (.string s) := x0
              have x1 : w4.cell? ⟨w2.heap.size, 1, none⟩ = some (.int .i64 yr.ty) := x1
              have x2 : w4.cell? ⟨w2.heap.size, 2, none⟩ = some (.int .i64 tt) := x2
              have x3 : w4.cell? ⟨w2.heap.size, 3, none⟩ = some (.int .i64 yr.n) := x3
              have x4 : w4.cell? ⟨w2.heap.size, 4, none⟩ = some (.string yr.host) := x4
              have x5 : w4.cell? ⟨w2.heap.size, 5, none⟩ = some (.string yr.text) := x5
              go_wp2
              refine bodyPost_ret (v := valR (0, p + 10 + q, wn yr s tt)) (res3 rfl (fil_bk Z4.out (wn yr s tt)) rfl rfl rfl) rfl ⟨by rw [HX3.out]; rfl, fil_below L4.out (Nat.le_refl _) (wn yr s tt)⟩
        · have hcl2 : (cl != 1) = true := by simpa using hcl
          have HX3 : Hid (X = (2, 0, zr)) := HX2.out.trans (if_neg (fun e => hcl e.2.1))
          clear HX2 hcl
          go_wp2
          refine bodyPost_ret (v := valR (2, 0, zr)) (res3 rfl (fil_bk Z3.out zr) rfl rfl rfl) rfl ⟨by rw [HX3.out], fil_below L3.out (Nat.le_refl _) zr⟩
      · have HX2 := Lib.hid (HX.out.trans (if_pos hdc))
        have hc2 : ((dc : Int) != 0) = true := by simp; omega
        have L3 := Lib.hid (L2.out.alloc L2.out.size (.cells #[.string yr.name, .int .i64 yr.ty, .int .i64 yr.ttl, .int .i64 yr.n, .string yr.host, .string yr.text] 25))
        have Z3 := Lib.hid (Z2.out.alloc (.cells #[.string yr.name, .int .i64 yr.ty, .int .i64 yr.ttl, .int .i64 yr.n, .string yr.host, .string yr.text] 25))
        clear HX HM
        obtain ⟨z0, z1, z2, z3, z4, z5⟩ := bx_of Z3.out
        have f0 := Z3.out.free 0
        have f1 := Z3.out.free 1
        have f2 := Z3.out.free 2
        have f3 := Z3.out.free 3
        have f4 := Z3.out.free 4
        have f5 := Z3.out.free 5
        go_wp2
        refine bodyPost_ret (v := valR (dc, 0, zr)) (res3 rfl (fil_bk Z3.out zr) rfl rfl rfl) rfl ⟨by rw [HX2.out], fil_below L3.out (Nat.le_refl _) zr⟩
  · have HX := Lib.hid (gr_name hR hc)
    have hc2 : ((c0 : Int) != 0) = true := by simp; omega
    generalize gr l k = X at *
    generalize Jo L = s at *
    clear hs hl he hR
    go_enter Tryd.func38, Tryd.ntmps38
    go_wp2_with fail
    refine (GN.out _ L0.out).mono ?_
    rintro e w1 ⟨rfl, hl⟩
    have L1 := Lib.hid (L0.out.trans (hl.mono L0.out.size))
    have Z1 := Lib.hid (Z0.out.below hl Z0.out.lt)
    clear hl L0 Z0
    obtain ⟨z0, z1, z2, z3, z4, z5⟩ := bx_of Z1.out
    have f0 := Z1.out.free 0
    have f1 := Z1.out.free 1
    have f2 := Z1.out.free 2
    have f3 := Z1.out.free 3
    have f4 := Z1.out.free 4
    have f5 := Z1.out.free 5
    go_wp2
    refine bodyPost_ret (v := valR (c0, 0, zr)) (res3 rfl (fil_bk Z1.out zr) rfl rfl rfl) rfl ⟨by rw [HX.out], fil_below L1.out (Nat.le_refl _) zr⟩
end Go.Proofs.YtcpadkehalgddaaDoor.GetRecI

/- What the model's GetData and GetRecord do: they read as FieldMath tells (gd, gr), and turn nothing that was there. Condition: at most 400000000 bytes. -/
namespace Go.Proofs.YtcpadkehalgddaaDoor.GetRecS
open Go.RowKit Go.Proofs.YtcpadkehalgddaaDoor.Mem Go.Proofs.YtcpadkehalgddaaDoor.MemR Go.Proofs.YtcpadkehalgddaaDoor.JoinSpec Go.Proofs.YtcpadkehalgddaaDoor.BoxR Go.Proofs.YtcpadkehalgddaaDoor.NameOk Go.Proofs.YtcpadkehalgddaaDoor.TextR Go.Proofs.YtcpadkehalgddaaDoor.RecOk Go.Proofs.YtcpadkehalgddaaDoor.WireMath Go.Proofs.YtcpadkehalgddaaDoor.WireGood Go.Proofs.YtcpadkehalgddaaDoor.WalkSpec Go.Proofs.YtcpadkehalgddaaDoor.FieldMath Go.Proofs.YtcpadkehalgddaaDoor.FieldRd Go.Proofs.YtcpadkehalgddaaDoor.ResR Go.Proofs.YtcpadkehalgddaaDoor.GetI Go.Proofs.YtcpadkehalgddaaDoor.GetSA Go.Proofs.YtcpadkehalgddaaDoor.GetRecI

theorem data (A : Option Addr) (n c : Nat) (l : List UInt8) (k q ty : Int) (w : World) (hs : Sl w w.heap.size A n l) (hnc : n ≤ c) (hn : n ≤ 400000000) :
    Calls Tryd.prog 31 #[.slice A n c, .int .i64 k, .int .i64 q, .int .i64 ty] w fun e w' => e = .returned (val2 (gd l k q ty)) ∧ Below w.heap.size w w' := by
  by_cases h : 0 ≤ q ∧ q ≤ 255
  · by_cases ht : ty = 1 ∨ ty = 2 ∨ ty = 5 ∨ ty = 6 ∨ ty = 16
    · by_cases hk : k < 0 ∨ (n : Int) - q < k
      · exact data_o A n c l k q ty w hs hn h ht hk
      · rcases ht with rfl | rfl | rfl | rfl | rfl
        · exact data_1 A n c l k q w hs hn h hk
        · exact GetSB.data_2 A n c l k q w hs hnc hn h hk
        · exact GetSB.data_5 A n c l k q w hs hnc hn h hk
        · exact GetSD.data_6 A n c l k q w hs hnc hn h hk
        · exact GetSC.data_16 A n c l k q w hs hnc hn h hk
    · exact data_t A n c l k q ty w hs hn h ht
  · exact data_n A n c l k q ty w h
/-- What GetData gives is not long, if it succeeds. -/
theorem gd_small {l : List UInt8} {k n ty : Int} {r : Rec} (h : gd l k n ty = (0, r)) : DataS.Med r := by
  unfold gd at h
  have hz : DataS.Med zr := ⟨by decide, by decide, by decide⟩
  split at h
  · simp at h
  · split at h
    · simp at h
    · split at h
      · split at h
        · simp only [Prod.mk.injEq, true_and] at h
          rw [← h]
          exact ⟨by show (0 : Nat) ≤ _; omega, by show (0 : Nat) ≤ _; omega, by show (0 : Nat) ≤ _; omega⟩
        · simp at h
      · split at h
        · split at h
          · rename_i hn _ _ _ hp
            simp only [Prod.mk.injEq, true_and] at h
            rw [← h]
            have hp := piece_le l k.toNat (n - 1).toNat
            exact ⟨by show (0 : Nat) ≤ _; omega, by show (0 : Nat) ≤ _; omega, by show (GetLabel.piece l k.toNat (n - 1).toNat).size ≤ _; omega⟩
          · simp at h
        · split at h
          · split at h
            · rename_i hc
              simp only [Prod.mk.injEq] at h
              exact absurd h.1 hc
            · rename_i hc
              split at h
              · simp only [Prod.mk.injEq, true_and] at h
                rw [← h]
                exact ⟨by show (0 : Nat) ≤ _; omega, Nat.le_trans (name_le (Decidable.byContradiction hc)) (by decide), by show (0 : Nat) ≤ _; omega⟩
              · simp at h
          · split at h
            · split at h
              · rename_i hc
                simp only [Prod.mk.injEq] at h
                exact absurd h.1 hc
              · rename_i hc
                split at h
                · simp only [Prod.mk.injEq, true_and] at h
                  rw [← h]
                  exact ⟨by show (0 : Nat) ≤ _; omega, Nat.le_trans (name_le (Decidable.byContradiction hc)) (by decide), by show (0 : Nat) ≤ _; omega⟩
                · simp at h
            · simp at h
/-- The record's answer, told of what the model's GetData gave. -/
theorem gr_of {l : List UInt8} {k : Int} {L : List ByteArray} {p : Int} {j c : Nat} {r : Rec} (h : rn l [] k k 0 (-1) = (0, L, p, j)) (hp : ¬ (l.length : Int) - 10 < p) (hd : gd l (p + 10) (FieldMath.n2 l (p + 8)).1 (FieldMath.n2 l p).1 = (c, r)) :
    gr l k = if c ≠ 0 then (c, 0, zr) else if (FieldMath.n4 l (p + 4)).2 = true ∧ (FieldMath.n2 l (p + 2)).1 = 1 ∧ rok (wn r (Jo L) (FieldMath.n4 l (p + 4)).1) = true then (0, p + 10 + (FieldMath.n2 l (p + 8)).1, wn r (Jo L) (FieldMath.n4 l (p + 4)).1) else (2, 0, zr) := by
  by_cases hc : c ≠ 0
  · rw [if_pos hc]
    exact gr_data h hp hd hc
  · have hc0 : c = 0 := Decidable.byContradiction hc
    subst hc0
    rw [if_neg hc]
    split
    · rename_i hg
      exact gr_good h hp hd hg
    · rename_i hg
      exact gr_form h hp hd hg

set_option maxRecDepth 100000 in
set_option maxHeartbeats 4000000 in
theorem record (A : Option Addr) (n c : Nat) (l : List UInt8) (k : Int) (w : World) (hs : Sl w w.heap.size A n l) (hnc : n ≤ c) (hn : n ≤ 400000000) :
    Calls Tryd.prog 37 #[.slice A n c, .int .i64 k] w fun e w' => e = .returned (valR (gr l k)) ∧ Below w.heap.size w w' := by
  have hl := hs.1
  have GN := Lib.hid (fun W (hW : Below w.heap.size w W) => WalkSpec.getName A n c l k W _ rfl ((hs.below hW).wider hW.size) hn hnc)
  generalize hR : rn l [] k k 0 (-1) = R at *
  obtain ⟨c0, L, p, j⟩ := R
  unfold val3 at GN
  dsimp only at GN
  by_cases hc : c0 = 0
  · subst hc
    have HF := rn_from hR
    obtain ⟨_, _, hp1, hp2, _⟩ := rn_good hR
    have hp0 : 0 ≤ p := by omega
    rw [hl] at hp2
    clear hp1 HF
    by_cases hs10 : (n : Int) - 10 < p
    · have HX := Lib.hid (gr_short hR (by rw [hl]; exact hs10))
      generalize gr l k = X at *
      generalize Jo L = s at *
      clear hs hl hR
      go_enter Tryd.func37, Tryd.ntmps37
      go_wp2_with fail
      refine (GN.out _ (low_b w)).mono ?_
      rintro e w1 ⟨rfl, hl⟩
      have L1 := Lib.hid ((low_b w).trans (hl.mono (low_b w).size))
      have Z1 := Lib.hid (Bk.below (box_a w) hl (box_a w).lt)
      have N1 := Lib.hid (Bk.below (box_b w) hl (box_b w).lt)
      clear hl
      obtain ⟨z0, z1, z2, z3, z4, z5⟩ := bx_of Z1.out
      obtain ⟨n0, n1, n2, n3, n4, n5⟩ := bx_of N1.out
      have f0 := Z1.out.free 0
      have f1 := Z1.out.free 1
      have f2 := Z1.out.free 2
      have f3 := Z1.out.free 3
      have f4 := Z1.out.free 4
      have f5 := Z1.out.free 5
      go_wp2
      refine bodyPost_ret (v := valR (1, 0, zr)) (res3 rfl (fil_bk Z1.out zr) rfl rfl rfl) rfl ⟨by rw [HX.out], fil_below L1.out (Nat.le_refl _) zr⟩
    · have HG2 := Lib.hid (fun (q : Int) (W : World) (hW : Below w.heap.size w W) => get2 A n c l q W _ (hs.below hW) hn)
      have HG4 := Lib.hid (fun (q : Int) (W : World) (hW : Below w.heap.size w W) => get4 A n c l q W _ (hs.below hW) hn)
      have HGD := Lib.hid (fun (q m t : Int) (W : World) (hW : Below w.heap.size w W) => data A n c l q m t W ((hs.below hW).wider hW.size) hnc hn)
      generalize hD : gd l (p + 10) (FieldMath.n2 l (p + 8)).1 (FieldMath.n2 l p).1 = D at *
      obtain ⟨dc, yr⟩ := D
      have HX := Lib.hid (gr_of hR (by rw [hl]; exact hs10) hD)
      have HM := Lib.hid (fun (e : dc = 0) => gd_small (r := yr) (by rw [hD, e]))
      have HNL : Hid ((Jo L).size ≤ 50) := (Plain.nm_parts (rn_good hR).2.1).1
      have h1 := (n2_in (l := l) (k := p) hp0 (by omega)).2
      have h2 := (n2_in (l := l) (k := p + 2) (by omega) (by omega)).2
      have h8 := (n2_in (l := l) (k := p + 8) (by omega) (by omega)).2
      have hG1 := HG2.out p
      have hG2 := HG2.out (p + 2)
      have hG8 := HG2.out (p + 8)
      have hG4 := HG4.out (p + 4)
      have hGD := HGD.out (p + 10) (FieldMath.n2 l (p + 8)).1 (FieldMath.n2 l p).1
      rw [hD] at hGD
      generalize gr l k = X at *
      generalize Jo L = s at *
      clear hD
      generalize FieldMath.n2 l p = y1 at *
      generalize FieldMath.n2 l (p + 2) = y2 at *
      generalize FieldMath.n2 l (p + 8) = y8 at *
      generalize FieldMath.n4 l (p + 4) = y4 at *
      obtain ⟨ty, b1⟩ := y1
      obtain ⟨cl, b2⟩ := y2
      obtain ⟨q, b8⟩ := y8
      obtain ⟨tt, b4⟩ := y4
      dsimp only at h1 h2 h8 hG1 hG2 hG8 hG4 hGD HX
      obtain ⟨h10, h11⟩ := h1
      obtain ⟨h20, h21⟩ := h2
      obtain ⟨h80, h81⟩ := h8
      have G1 := Lib.hid hG1
      have G2 := Lib.hid hG2
      have G8 := Lib.hid hG8
      have G4 := Lib.hid hG4
      have GD := Lib.hid hGD
      clear hG1 hG2 hG8 hG4 hGD HG2 HG4 HGD hs hl hR
      go_enter Tryd.func37, Tryd.ntmps37
      go_wp2_with fail
      refine (GN.out _ (low_b w)).mono ?_
      rintro e w1 ⟨rfl, hl⟩
      have L1 := Lib.hid ((low_b w).trans (hl.mono (low_b w).size))
      have Z1 := Lib.hid (Bk.below (box_a w) hl (box_a w).lt)
      have N1 := Lib.hid (Bk.below (box_b w) hl (box_b w).lt)
      clear hl
      go_wp2_with fail
      refine (G1.out _ L1.out).mono ?_
      rintro e w2 ⟨rfl, hl⟩
      have L2 := Lib.hid (L1.out.trans (hl.mono L1.out.size))
      have Z2 := Lib.hid (Z1.out.below hl Z1.out.lt)
      have N2 := Lib.hid (N1.out.below hl N1.out.lt)
      clear hl L1 Z1 N1
      go_wp2_with fail
      refine (G2.out _ L2.out).mono ?_
      rintro e w3 ⟨rfl, hl⟩
      have L3 := Lib.hid (L2.out.trans (hl.mono L2.out.size))
      have Z3 := Lib.hid (Z2.out.below hl Z2.out.lt)
      have N3 := Lib.hid (N2.out.below hl N2.out.lt)
      clear hl L2 Z2 N2
      go_wp2_with fail
      refine (G4.out _ L3.out).mono ?_
      rintro e w4 ⟨rfl, hl⟩
      have L4 := Lib.hid (L3.out.trans (hl.mono L3.out.size))
      have Z4 := Lib.hid (Z3.out.below hl Z3.out.lt)
      have N4 := Lib.hid (N3.out.below hl N3.out.lt)
      clear hl L3 Z3 N3
      go_wp2_with fail
      refine (G8.out _ L4.out).mono ?_
      rintro e w5 ⟨rfl, hl⟩
      have L5 := Lib.hid (L4.out.trans (hl.mono L4.out.size))
      have Z5 := Lib.hid (Z4.out.below hl Z4.out.lt)
      have N5 := Lib.hid (N4.out.below hl N4.out.lt)
      clear hl L4 Z4 N4
      go_wp2_with fail
      refine (GD.out _ L5.out).mono ?_
      rintro e w6 ⟨rfl, hl⟩
      have L6 := Lib.hid (L5.out.trans (hl.mono L5.out.size))
      have Z6 := Lib.hid (Z5.out.below hl Z5.out.lt)
      have N6 := Lib.hid (N5.out.below hl N5.out.lt)
      clear hl L5 Z5 N5
      clear G1 G2 G4 G8 GD GN
      unfold val2
      dsimp only
      by_cases hdc : dc = 0
      · subst hdc
        have HX2 := Lib.hid (HX.out.trans (if_neg (fun e => e rfl)))
        have hmed := HM.out rfl
        have RO := Lib.hid (fun W => RecOk.spec (wn yr s tt) W (show Mod (wn yr s tt) from ⟨Nat.le_trans HNL.out (by decide), (hmed.mod).2.1, (hmed.mod).2.2⟩))
        unfold wn at RO
        dsimp only at RO
        have L7 := Lib.hid (L6.out.alloc L6.out.size (.cells #[.string s, .int .i64 yr.ty, .int .i64 tt, .int .i64 yr.n, .string yr.host, .string yr.text] 25))
        have Z7 := Lib.hid (Z6.out.alloc (.cells #[.string s, .int .i64 yr.ty, .int .i64 tt, .int .i64 yr.n, .string yr.host, .string yr.text] 25))
        have N7 := Lib.hid (N6.out.alloc (.cells #[.string s, .int .i64 yr.ty, .int .i64 tt, .int .i64 yr.n, .string yr.host, .string yr.text] 25))
        have X7 := Lib.hid (bx_new w6 25 (wn yr s tt))
        clear HX HM hmed
        obtain ⟨z0, z1, z2, z3, z4, z5⟩ := bx_of Z7.out
        obtain ⟨n0, n1, n2, n3, n4, n5⟩ := bx_of N7.out
        have f0 := Z7.out.free 0
        have f1 := Z7.out.free 1
        have f2 := Z7.out.free 2
        have f3 := Z7.out.free 3
        have f4 := Z7.out.free 4
        have f5 := Z7.out.free 5
        cases b4
        · have HX3 : Hid (X = (2, 0, zr)) := HX2.out.trans (if_neg (fun e => by simp at e))
          clear HX2
          go_wp2
          refine bodyPost_ret (v := valR (2, 0, zr)) (res3 rfl (fil_bk Z7.out zr) rfl rfl rfl) rfl ⟨by rw [HX3.out], fil_below L7.out (Nat.le_refl _) zr⟩
        · by_cases hcl : cl = 1
          · have hcl2 : (cl != 1) = false := by simp [hcl]
            obtain ⟨u, hu⟩ : ∃ u, rok (wn yr s tt) = u := ⟨_, rfl⟩
            have HU := Lib.hid hu
            have HX3 : Hid (X = if u = true then (0, p + 10 + q, wn yr s tt) else (2, 0, zr)) := by
              show _ = _
              rw [HX2.out, hu]
              cases u <;> simp [hcl]
            clear hu HX2 hcl
            go_wp2_with fail
            refine (RO.out _).mono ?_
            rw [show rok ⟨s, yr.ty, tt, yr.n, yr.host, yr.text⟩ = u from HU.out]
            rintro e w8 ⟨rfl, hl⟩
            have L8 := Lib.hid (L7.out.trans (hl.mono L7.out.size))
            have Z8 := Lib.hid (Z7.out.below hl Z7.out.lt)
            have N8 := Lib.hid (N7.out.below hl N7.out.lt)
            have X8 := Lib.hid (X7.out.below hl)
            clear hl L7 Z7 N7 X7 z0 z1 z2 z3 z4 z5 n0 n1 n2 n3 n4 n5 f0 f1 f2 f3 f4 f5
            obtain ⟨z0, z1, z2, z3, z4, z5⟩ := bx_of Z8.out
            obtain ⟨n0, n1, n2, n3, n4, n5⟩ := bx_of N8.out
            have f0 := Z8.out.free 0
            have f1 := Z8.out.free 1
            have f2 := Z8.out.free 2
            have f3 := Z8.out.free 3
            have f4 := Z8.out.free 4
            have f5 := Z8.out.free 5
            cases u
            · go_wp2
              refine bodyPost_ret (v := valR (2, 0, zr)) (res3 rfl (fil_bk Z8.out zr) rfl rfl rfl) rfl ⟨by rw [HX3.out]; rfl, fil_below L8.out (Nat.le_refl _) zr⟩
            · obtain ⟨x0, x1, x2, x3, x4, x5⟩ := X8.out
              have x0 : w8.cell? ⟨w6.heap.size, 0, none⟩ = some (.string s) := x0
              have x1 : w8.cell? ⟨w6.heap.size, 1, none⟩ = some (.int .i64 yr.ty) := x1
              have x2 : w8.cell? ⟨w6.heap.size, 2, none⟩ = some (.int .i64 tt) := x2
              have x3 : w8.cell? ⟨w6.heap.size, 3, none⟩ = some (.int .i64 yr.n) := x3
              have x4 : w8.cell? ⟨w6.heap.size, 4, none⟩ = some (.string yr.host) := x4
              have x5 : w8.cell? ⟨w6.heap.size, 5, none⟩ = some (.string yr.text) := x5
              go_wp2
              refine bodyPost_ret (v := valR (0, p + 10 + q, wn yr s tt)) (res3 rfl (fil_bk Z8.out (wn yr s tt)) rfl rfl rfl) rfl ⟨by rw [HX3.out]; rfl, fil_below L8.out (Nat.le_refl _) (wn yr s tt)⟩
          · have hcl2 : (cl != 1) = true := by simpa using hcl
            have HX3 : Hid (X = (2, 0, zr)) := HX2.out.trans (if_neg (fun e => hcl e.2.1))
            clear HX2 hcl
            go_wp2
            refine bodyPost_ret (v := valR (2, 0, zr)) (res3 rfl (fil_bk Z7.out zr) rfl rfl rfl) rfl ⟨by rw [HX3.out], fil_below L7.out (Nat.le_refl _) zr⟩
      · have HX2 := Lib.hid (HX.out.trans (if_pos hdc))
        have hc2 : ((dc : Int) != 0) = true := by simp; omega
        have L7 := Lib.hid (L6.out.alloc L6.out.size (.cells #[.string yr.name, .int .i64 yr.ty, .int .i64 yr.ttl, .int .i64 yr.n, .string yr.host, .string yr.text] 25))
        have Z7 := Lib.hid (Z6.out.alloc (.cells #[.string yr.name, .int .i64 yr.ty, .int .i64 yr.ttl, .int .i64 yr.n, .string yr.host, .string yr.text] 25))
        have N7 := Lib.hid (N6.out.alloc (.cells #[.string yr.name, .int .i64 yr.ty, .int .i64 yr.ttl, .int .i64 yr.n, .string yr.host, .string yr.text] 25))
        clear HX HM
        obtain ⟨z0, z1, z2, z3, z4, z5⟩ := bx_of Z7.out
        obtain ⟨n0, n1, n2, n3, n4, n5⟩ := bx_of N7.out
        have f0 := Z7.out.free 0
        have f1 := Z7.out.free 1
        have f2 := Z7.out.free 2
        have f3 := Z7.out.free 3
        have f4 := Z7.out.free 4
        have f5 := Z7.out.free 5
        go_wp2
        refine bodyPost_ret (v := valR (dc, 0, zr)) (res3 rfl (fil_bk Z7.out zr) rfl rfl rfl) rfl ⟨by rw [HX2.out], fil_below L7.out (Nat.le_refl _) zr⟩
  · have HX := Lib.hid (gr_name hR hc)
    have hc2 : ((c0 : Int) != 0) = true := by simp; omega
    generalize gr l k = X at *
    generalize Jo L = s at *
    clear hs hl hR
    go_enter Tryd.func37, Tryd.ntmps37
    go_wp2_with fail
    refine (GN.out _ (low_b w)).mono ?_
    rintro e w1 ⟨rfl, hl⟩
    have L1 := Lib.hid ((low_b w).trans (hl.mono (low_b w).size))
    have Z1 := Lib.hid (Bk.below (box_a w) hl (box_a w).lt)
    have N1 := Lib.hid (Bk.below (box_b w) hl (box_b w).lt)
    clear hl
    obtain ⟨z0, z1, z2, z3, z4, z5⟩ := bx_of Z1.out
    obtain ⟨n0, n1, n2, n3, n4, n5⟩ := bx_of N1.out
    have f0 := Z1.out.free 0
    have f1 := Z1.out.free 1
    have f2 := Z1.out.free 2
    have f3 := Z1.out.free 3
    have f4 := Z1.out.free 4
    have f5 := Z1.out.free 5
    go_wp2
    refine bodyPost_ret (v := valR (c0, 0, zr)) (res3 rfl (fil_bk Z1.out zr) rfl rfl rfl) rfl ⟨by rw [HX.out], fil_below L1.out (Nat.le_refl _) zr⟩
end Go.Proofs.YtcpadkehalgddaaDoor.GetRecS

/- What the model's GetRecords does: it reads records as FieldMath tells (grs), into a new row of its own, and turns nothing that was there. Condition: at most 400000000 bytes. -/
namespace Go.Proofs.YtcpadkehalgddaaDoor.GetsS
open Go.RowKit Go.Proofs.YtcpadkehalgddaaDoor.Mem Go.Proofs.YtcpadkehalgddaaDoor.MemR Go.Proofs.YtcpadkehalgddaaDoor.Labels Go.Proofs.YtcpadkehalgddaaDoor.Label Go.Proofs.YtcpadkehalgddaaDoor.TextR Go.Proofs.YtcpadkehalgddaaDoor.App Go.Proofs.YtcpadkehalgddaaDoor.AppR Go.Proofs.YtcpadkehalgddaaDoor.FieldMath Go.Proofs.YtcpadkehalgddaaDoor.GetRecI Go.Proofs.YtcpadkehalgddaaDoor.GetsM

set_option maxRecDepth 100000 in
set_option maxHeartbeats 4000000 in
theorem recs (A : Option Addr) (n c : Nat) (l : List UInt8) (k q : Int) (w : World) (hs : Sl w w.heap.size A n l) (hnc : n ≤ c) (hn : n ≤ 400000000) :
    Calls Tryd.prog 39 #[.slice A n c, .int .i64 k, .int .i64 q] w (Grs w (grA l k q)) := by
  have GR := Lib.hid (fun (a : Int) (W : World) (hW : Below w.heap.size w W) => GetRecS.record A n c l a W ((hs.below hW).wider hW.size) hnc hn)
  unfold valR at GR
  clear hs
  by_cases h : 0 ≤ q ∧ q ≤ 8
  · have HI : Hid (decide ((0 : Int) ≤ q ∧ q ≤ 8) = true) := decide_eq_true h
    obtain ⟨h0, h8⟩ := h
    obtain ⟨m, rfl⟩ := Int.eq_ofNat_of_zero_le h0
    have hm8 : m ≤ 8 := by omega
    have HX : Hid (grs l m k [] = grA l k (m : Int)) := by show _ = _; rw [grA, if_pos ⟨by omega, by omega⟩, Int.toNat_natCast]
    generalize grA l k (m : Int) = X at *
    have GS := Lib.hid (grs_step l)
    go_enter Tryd.func39, Tryd.ntmps39
    go_wp2_with fail
    refine (l1In_any _ _ _ _).mono ?_
    rw [HI.out]
    rintro e w1 ⟨rfl, rfl⟩
    go_wp2
    go_loopw [1, 9, 10] (fun a v i wr => ∃ (j g cap : Nat) (M : List Rec) (p : Int), j ≤ m ∧ i = .int .i64 (j : Int) ∧ a = .int .i64 p ∧ v = .slice (some ⟨g, 0, none⟩) j cap ∧ Hid (grs l (m - j) p M = X) ∧ Hid (wr.ownsRow w.heap.size 25 6 (.slice (some ⟨g, 0, none⟩) j cap) j (fl M)) ∧ Hid (Below w.heap.size w wr)) (fun _ _ i _ => m - (intOf i).toNat)
    case atStart => exact ⟨0, w.heap.size, 0, [], k, Nat.zero_le _, rfl, rfl, rfl, HX.out, AppR.owns_new w, (Below.refl _ _).alloc (Nat.le_refl _) _⟩
    case round =>
      clear HX
      obtain ⟨j, g, cap, M, p, hj, rfl, rfl, rfl, HG, HO, HB⟩ := hrel
      by_cases hlt : j < m
      · have HG2 : Hid ((if (gr l p).1 ≠ 0 then ((gr l p).1, 0, []) else grs l (m - (j + 1)) (gr l p).2.1 (M ++ [(gr l p).2.2])) = X) := by
          show _ = _
          rw [← HG.out, show m - j = m - (j + 1) + 1 by omega, GS.out]
        have G1 := Lib.hid (GR.out p wr HB.out)
        clear HG
        generalize gr l p = Y at *
        obtain ⟨yc, yp, r⟩ := Y
        dsimp only at G1 HG2
        go_wp2_with fail
        refine G1.out.mono ?_
        rintro e w2 ⟨rfl, hl⟩
        have B2 := Lib.hid (HB.out.trans (hl.mono HB.out.size))
        have O2 := Lib.hid (own_below HO.out hl)
        clear hl HB HO G1
        have B3 := Lib.hid (B2.out.alloc B2.out.size (.cells #[.string r.name, .int .i64 r.ty, .int .i64 r.ttl, .int .i64 r.n, .string r.host, .string r.text] 25))
        by_cases hc : yc = 0
        · subst hc
          have HG3 := Lib.hid ((if_neg (fun e => e rfl)).symm.trans HG2.out)
          clear HG2
          have O4 := Lib.hid ((O2.out.alloc (.cells #[.string r.name, .int .i64 r.ty, .int .i64 r.ttl, .int .i64 r.n, .string r.host, .string r.text] 25)).alloc (.cells #[.string r.name, .int .i64 r.ty, .int .i64 r.ttl, .int .i64 r.n, .string r.host, .string r.text] 25))
          have B4 := Lib.hid (B3.out.alloc B3.out.size (.cells #[.string r.name, .int .i64 r.ty, .int .i64 r.ttl, .int .i64 r.n, .string r.host, .string r.text] 25))
          have S4 := Lib.hid (one_sr (w2.alloc (.cells #[.string r.name, .int .i64 r.ty, .int .i64 r.ttl, .int .i64 r.n, .string r.host, .string r.text] 25)) r)
          rw [show (w2.alloc (.cells #[.string r.name, .int .i64 r.ty, .int .i64 r.ttl, .int .i64 r.n, .string r.host, .string r.text] 25)).heap.size = w2.heap.size + 1 by simp] at S4
          go_wp2_with (at_builtin; refine append_recs rfl (.tmp 35) (.tmp 37) rfl w.heap.size g j cap M rfl O4.out (w2.heap.size + 1) 0 1 1 _ [r] rfl S4.out ?d1 ?d2 ?d3 ?_)
          case d1 => omega
          case d2 => omega
          case d3 => exact B4.out.size
          intro g5 cap5 w5 hown hgrow
          have O5 := Lib.hid hown
          have B5 := Lib.hid (B4.out.grown hgrow B4.out.size (fun i hi => by cases hi; exact (O4.out.lt g rfl).1))
          clear hown hgrow O4 B4 S4 O2 B2 B3
          go_wp2
          go_roundw
          case rel => exact ⟨j + 1, g5, cap5, M ++ [r], yp, by omega, by go_num, rfl, rfl, HG3.out, O5.out, B5.out⟩
          case measure => simp [intOf]; omega
        · have HG3 := Lib.hid ((if_pos hc).symm.trans HG2.out)
          have hc2 : ((yc : Int) != 0) = true := by simp; omega
          clear HG2
          go_wp2
          go_ret3
          rw [← HG3.out]
          exact grs_nil2 B3.out 0 yc (by simp)
      · obtain rfl : j = m := by omega
        have HG2 : Hid ((0, p, M) = X) := by
          have := HG.out
          rw [Nat.sub_self] at this
          exact this
        go_wp2
        go_ret3
        rw [← HG2.out]
        exact grs_of HO.out HB.out p 0
  · have HI : Hid (decide ((0 : Int) ≤ q ∧ q ≤ 8) = false) := decide_eq_false h
    have HX : Hid ((2, 0, []) = grA l k q) := by show _ = _; rw [grA, if_neg h]
    generalize grA l k q = X at *
    clear h GR
    go_enter Tryd.func39, Tryd.ntmps39
    go_wp2_with fail
    refine (l1In_any _ _ _ _).mono ?_
    rw [HI.out]
    rintro e w1 ⟨rfl, rfl⟩
    go_wp2
    go_ret3
    rw [← HX.out]
    exact grs_nil (Below.refl _ _) 0 2
end Go.Proofs.YtcpadkehalgddaaDoor.GetsS

/- What the program's GetRecords does: it reads records as FieldMath tells (grs), into a new row of its own, and turns nothing that was there. Conditions: at most 400000000 bytes; the library's variable internal/bytealg.MaxLen holds an int. -/
namespace Go.Proofs.YtcpadkehalgddaaDoor.GetsI
open Go.RowKit Go.Proofs.YtcpadkehalgddaaDoor.Mem Go.Proofs.YtcpadkehalgddaaDoor.MemR Go.Proofs.YtcpadkehalgddaaDoor.Labels Go.Proofs.YtcpadkehalgddaaDoor.Label Go.Proofs.YtcpadkehalgddaaDoor.TextR Go.Proofs.YtcpadkehalgddaaDoor.App Go.Proofs.YtcpadkehalgddaaDoor.AppR Go.Proofs.YtcpadkehalgddaaDoor.FieldMath Go.Proofs.YtcpadkehalgddaaDoor.GetRecI Go.Proofs.YtcpadkehalgddaaDoor.GetsM

set_option maxRecDepth 100000 in
set_option maxHeartbeats 4000000 in
theorem recs (A : Option Addr) (n c : Nat) (l : List UInt8) (k q : Int) (w : World) (he : Env w) (hs : Sl w w.heap.size A n l) (hnc : n ≤ c) (hn : n ≤ 400000000) :
    Calls Tryd.prog 40 #[.slice A n c, .int .i64 k, .int .i64 q] w (Grs w (grA l k q)) := by
  have GR := Lib.hid (fun (a : Int) (W : World) (hW : Below w.heap.size w W) => GetRecI.record A n c l a W (he.below hW) ((hs.below hW).wider hW.size) hnc hn)
  unfold valR at GR
  clear hs he
  by_cases h : 0 ≤ q ∧ q ≤ 8
  · have HI : Hid (inn q 0 8 = true) := decide_eq_true h
    obtain ⟨h0, h8⟩ := h
    obtain ⟨m, rfl⟩ := Int.eq_ofNat_of_zero_le h0
    have hm8 : m ≤ 8 := by omega
    have HX : Hid (grs l m k [] = grA l k (m : Int)) := by show _ = _; rw [grA, if_pos ⟨by omega, by omega⟩, Int.toNat_natCast]
    generalize grA l k (m : Int) = X at *
    have GS := Lib.hid (grs_step l)
    go_enter Tryd.func40, Tryd.ntmps40
    go_wp2_with fail
    refine (upTo_any _ 8 _).mono ?_
    rw [HI.out]
    rintro e w1 ⟨rfl, rfl⟩
    go_wp2
    go_loopw [1, 9, 19] (fun a v i wr => ∃ (j g cap : Nat) (M : List Rec) (p : Int), j ≤ m ∧ i = .int .i64 (j : Int) ∧ a = .int .i64 p ∧ v = .slice (some ⟨g, 0, none⟩) j cap ∧ Hid (grs l (m - j) p M = X) ∧ Hid (wr.ownsRow w.heap.size 25 6 (.slice (some ⟨g, 0, none⟩) j cap) j (fl M)) ∧ Hid (Below w.heap.size w wr)) (fun _ _ i _ => m - (intOf i).toNat)
    case atStart => exact ⟨0, w.heap.size, 0, [], k, Nat.zero_le _, rfl, rfl, rfl, HX.out, AppR.owns_new w, (Below.refl _ _).alloc (Nat.le_refl _) _⟩
    case round =>
      clear HX
      obtain ⟨j, g, cap, M, p, hj, rfl, rfl, rfl, HG, HO, HB⟩ := hrel
      by_cases hlt : j < m
      · have HG2 : Hid ((if (gr l p).1 ≠ 0 then ((gr l p).1, 0, []) else grs l (m - (j + 1)) (gr l p).2.1 (M ++ [(gr l p).2.2])) = X) := by
          show _ = _
          rw [← HG.out, show m - j = m - (j + 1) + 1 by omega, GS.out]
        have G1 := Lib.hid (GR.out p wr HB.out)
        clear HG
        generalize gr l p = Y at *
        obtain ⟨yc, yp, r⟩ := Y
        dsimp only at G1 HG2
        go_wp2_with fail
        refine G1.out.mono ?_
        rintro e w2 ⟨rfl, hl⟩
        have B2 := Lib.hid (HB.out.trans (hl.mono HB.out.size))
        have O2 := Lib.hid (own_below HO.out hl)
        clear hl HB HO G1
        have B3 := Lib.hid (B2.out.alloc B2.out.size (.cells #[.string r.name, .int .i64 r.ty, .int .i64 r.ttl, .int .i64 r.n, .string r.host, .string r.text] 25))
        by_cases hc : yc = 0
        · subst hc
          have HG3 := Lib.hid ((if_neg (fun e => e rfl)).symm.trans HG2.out)
          clear HG2
          have O4 := Lib.hid ((O2.out.alloc (.cells #[.string r.name, .int .i64 r.ty, .int .i64 r.ttl, .int .i64 r.n, .string r.host, .string r.text] 25)).alloc (.cells #[.string r.name, .int .i64 r.ty, .int .i64 r.ttl, .int .i64 r.n, .string r.host, .string r.text] 25))
          have B4 := Lib.hid (B3.out.alloc B3.out.size (.cells #[.string r.name, .int .i64 r.ty, .int .i64 r.ttl, .int .i64 r.n, .string r.host, .string r.text] 25))
          have S4 := Lib.hid (one_sr (w2.alloc (.cells #[.string r.name, .int .i64 r.ty, .int .i64 r.ttl, .int .i64 r.n, .string r.host, .string r.text] 25)) r)
          rw [show (w2.alloc (.cells #[.string r.name, .int .i64 r.ty, .int .i64 r.ttl, .int .i64 r.n, .string r.host, .string r.text] 25)).heap.size = w2.heap.size + 1 by simp] at S4
          go_wp2_with (at_builtin; refine append_recs rfl (.tmp 32) (.tmp 34) rfl w.heap.size g j cap M rfl O4.out (w2.heap.size + 1) 0 1 1 _ [r] rfl S4.out ?d1 ?d2 ?d3 ?_)
          case d1 => omega
          case d2 => omega
          case d3 => exact B4.out.size
          intro g5 cap5 w5 hown hgrow
          have O5 := Lib.hid hown
          have B5 := Lib.hid (B4.out.grown hgrow B4.out.size (fun i hi => by cases hi; exact (O4.out.lt g rfl).1))
          clear hown hgrow O4 B4 S4 O2 B2 B3
          go_wp2
          go_roundw
          case rel => exact ⟨j + 1, g5, cap5, M ++ [r], yp, by omega, by go_num, rfl, rfl, HG3.out, O5.out, B5.out⟩
          case measure => simp [intOf]; omega
        · have HG3 := Lib.hid ((if_pos hc).symm.trans HG2.out)
          have hc2 : ((yc : Int) != 0) = true := by simp; omega
          clear HG2
          go_wp2
          go_ret3
          rw [← HG3.out]
          exact grs_nil2 B3.out 0 yc (by simp)
      · obtain rfl : j = m := by omega
        have HG2 : Hid ((0, p, M) = X) := by
          have := HG.out
          rw [Nat.sub_self] at this
          exact this
        go_wp2
        go_ret3
        rw [← HG2.out]
        exact grs_of HO.out HB.out p 0
  · have HI : Hid (inn q 0 8 = false) := decide_eq_false h
    have HX : Hid ((2, 0, []) = grA l k q) := by show _ = _; rw [grA, if_neg h]
    generalize grA l k q = X at *
    clear h GR
    go_enter Tryd.func40, Tryd.ntmps40
    go_wp2_with fail
    refine (upTo_any _ 8 _).mono ?_
    rw [HI.out]
    rintro e w1 ⟨rfl, rfl⟩
    go_wp2
    go_ret3
    rw [← HX.out]
    exact grs_nil (Below.refl _ _) 0 2
end Go.Proofs.YtcpadkehalgddaaDoor.GetsI

/- What the law's own helpers eqByteS, markByteS and heldByteS do on slices of bytes. Condition: fewer than 400000001 bytes. -/
namespace Go.Proofs.YtcpadkehalgddaaDoor.Eq
open Go.RowKit Go.Proofs.YtcpadkehalgddaaDoor.Mem

theorem cast_ne {a b : UInt8} (h : a ≠ b) : ((a.toNat : Int) != (b.toNat : Int)) = true := by
  rw [bne_iff_ne]; intro e; exact h (UInt8.toNat_inj.1 (by omega))
theorem cast_eq {a b : UInt8} (h : a = b) : ((a.toNat : Int) != (b.toNat : Int)) = false := by subst h; simp

/-- Two lists that agree as far as k, and part at k. -/
theorem ne_at {l m : List UInt8} {k : Nat} (h : k < l.length) (h' : k < m.length) (hne : l[k] ≠ m[k]) : (l == m) = false := by
  rw [beq_eq_false_iff_ne]; rintro rfl; exact hne rfl
theorem eq_all {l m : List UInt8} (hl : l.length = m.length) (h : l.take l.length = m.take l.length) : (l == m) = true := by
  rw [List.take_length, hl, List.take_length] at h; simp [h]
theorem take_step {l m : List UInt8} {k : Nat} (hk : k < l.length) (hk' : k < m.length) (h : l.take k = m.take k) (he : l[k] = m[k]) : l.take (k + 1) = m.take (k + 1) := by
  rw [List.take_succ_eq_append_getElem hk, List.take_succ_eq_append_getElem hk', h, he]

set_option maxHeartbeats 1000000 in
theorem eqByteS_any (A A' : Option Addr) (n c n' c' : Nat) (l m : List UInt8) (w : World) (B : Nat) (hs : Sl w B A n l) (hs' : Sl w B A' n' m) (hn : n ≤ 400000000) (hn' : n' ≤ 400000000) :
    Calls Tryd.prog 28 #[.slice A n c, .slice A' n' c'] w fun e w' => e = .returned (.bool (l == m)) ∧ ∃ k, w' = w.drewN k := by
  have HL := Lib.hid hs.1
  have HM := Lib.hid hs'.1
  by_cases hnn : n = n'
  · subst hnn
    have hd : ((n : Int) != (n : Int)) = false := by simp
    go_enter Tryd.func28, Tryd.ntmps28
    go_wp2
    go_loopw [5] (fun i wr => ∃ k : Nat, k ≤ n ∧ i = .int .i64 k ∧ Hid (l.take k = m.take k) ∧ Hid (∃ q, wr = w.drewN q)) (fun i _ => n - (intOf i).toNat)
    case atStart => exact ⟨0, Nat.zero_le _, rfl, rfl, ⟨0, rfl⟩⟩
    case round =>
      obtain ⟨k, hk, rfl, HT, HW⟩ := hrel
      obtain ⟨q, rfl⟩ := HW.out
      clear HW
      by_cases hlt : k < n
      · obtain ⟨b, off, rfl, hbB, hcs⟩ := hs.2 (by omega)
        obtain ⟨b', off', rfl, hbB', hcs'⟩ := hs'.2 (by omega)
        have hkl : k < l.length := by rw [HL.out]; exact hlt
        have hkm : k < m.length := by rw [HM.out]; exact hlt
        have hx : w.cell? ⟨b, off + k, none⟩ = some (.int .u8 (l[k].toNat : Int)) := hcs k hkl
        have hy : w.cell? ⟨b', off' + k, none⟩ = some (.int .u8 (m[k].toNat : Int)) := hcs' k hkm
        clear hcs hcs' hs hs'
        by_cases he : l[k] = m[k]
        · have hbb := cast_eq he
          have HE := Lib.hid he
          clear he
          go_wp2
          go_quiet (fail)
          go_wp2
          go_roundw
          case rel => exact ⟨k + 1, by omega, by go_num, take_step hkl hkm HT.out HE.out, ⟨_, rfl⟩⟩
          case measure => simp [intOf]; omega
        · have hbb := cast_ne he
          have HE := Lib.hid he
          clear he
          go_wp2
          go_quiet (fail)
          go_wp2
          go_ret
          exact ⟨by rw [ne_at hkl hkm HE.out]; rfl, ⟨q + nq, World.drewN_drewN _ _ _⟩⟩
      · go_wp2
        go_ret
        have hk2 : k = l.length := by rw [HL.out]; omega
        refine ⟨?_, ⟨_, rfl⟩⟩
        rw [eq_all (by rw [HL.out, HM.out]) (by rw [← hk2]; exact HT.out)]
        rfl
  · have hd : ((n : Int) != (n' : Int)) = true := by rw [bne_iff_ne]; omega
    go_enter Tryd.func28, Tryd.ntmps28
    go_wp2
    go_ret
    refine ⟨?_, ⟨0, rfl⟩⟩
    have : (l == m) = false := by
      rw [beq_eq_false_iff_ne]; rintro rfl; exact hnn (HL.out.symm.trans HM.out)
    rw [this]
    rfl

/-- Two slices that read alike are found equal. -/
theorem eqByteS_same (A A' : Option Addr) (n c n' c' : Nat) (l : List UInt8) (w : World) (hs : Sl w w.heap.size A n l) (hs' : Sl w w.heap.size A' n' l) (hn : n ≤ 400000000) (hn' : n' ≤ 400000000) :
    Calls Tryd.prog 28 #[.slice A n c, .slice A' n' c'] w fun e w' => e = .returned (.bool true) ∧ Below w.heap.size w w' := by
  refine (eqByteS_any A A' n c n' c' l l w _ hs hs' hn hn').mono fun e w' ⟨he, k, hw⟩ => ?_
  subst hw
  exact ⟨by rw [he]; simp, drewN_below _ _ _⟩

/-- The numbers that markByteS lays: k, k + 1 and so on, as bytes. -/
def marks : Nat → Nat → List Value
  | _, 0 => []
  | k, n + 1 => Value.int .u8 ((k : Int) % 256) :: marks (k + 1) n
theorem marks_length (k n : Nat) : (marks k n).length = n := by
  induction n generalizing k with
  | zero => rfl
  | succ n ih => simp [marks, ih]
theorem marks_at (k n j : Nat) (h : j < n) : (marks k n)[j]? = some (Value.int .u8 (((k : Int) + (j : Int)) % 256)) := by
  induction n generalizing k j with
  | zero => omega
  | succ n ih =>
    cases j with
    | zero => simp [marks]
    | succ j => simp only [marks, List.getElem?_cons_succ]; rw [ih (k + 1) j (by omega)]; rw [show ((k + 1 : Nat) : Int) + (j : Int) = (k : Int) + ((j + 1 : Nat) : Int) by omega]
theorem marks_snoc (k n : Nat) : marks k (n + 1) = marks k n ++ [Value.int .u8 (((k : Int) + (n : Int)) % 256)] := by
  induction n generalizing k with
  | zero => simp [marks]
  | succ n ih => rw [marks, ih (k + 1), marks, List.cons_append, show ((k + 1 : Nat) : Int) + (n : Int) = (k : Int) + ((n + 1 : Nat) : Int) by omega]

theorem mark_step (cs : List Value) (k j n : Nat) (hj : j < n) (hn : n ≤ cs.length) :
    (marks k j ++ cs.drop j).set j (Value.int .u8 (((k : Int) + (j : Int)) % 256)) = marks k (j + 1) ++ cs.drop (j + 1) := by
  rw [List.set_append_right _ _ (by rw [marks_length]; omega), marks_length, Nat.sub_self, List.drop_eq_getElem_cons (by omega), List.set_cons_zero, marks_snoc, List.append_assoc]
  rfl
theorem mark_at (cs : List Value) (k j : Nat) (hj : j < cs.length) : (marks k j ++ cs.drop j)[j]? = some cs[j] := by
  rw [List.getElem?_append_right (by rw [marks_length]; omega), marks_length, Nat.sub_self, List.drop_eq_getElem_cons hj]
  rfl

theorem grown_set {w wr : World} {g : Nat} (h : w.grownBy wr (some g)) (j : Nat) (u : Value) : w.grownBy (wr.setCell ⟨g, j, none⟩ u) (some g) :=
  ⟨h.os, h.tape, h.output, by simpa [World.setCell] using h.size, fun k hk hne => by
    rw [Below.heap_setCell _ _ _ _ (fun e => hne (by simp [e]))]; exact h.block k hk hne⟩

set_option maxHeartbeats 1000000 in
/-- markByteS on a block of the call's own: n of its cells are written. -/
theorem markByteS_any (g n c k0 : Nat) (cs : List Value) (w : World) (hb : Bk w g 5 cs) (hint : ∀ j, j < n → ∃ x : Int, cs[j]? = some (.int .u8 x)) (hl : n ≤ cs.length) (hn : n ≤ 400000000) (hk0 : k0 ≤ 400000000) :
    Calls Tryd.prog 29 #[.slice (some ⟨g, 0, none⟩) n c, .int .i64 (k0 : Int)] w fun e w' => e = .returned (.int .i64 ((k0 + n : Nat) : Int)) ∧ Bk w' g 5 (marks k0 n ++ cs.drop n) ∧ w.grownBy w' (some g) := by
  have HB := Lib.hid hb
  clear hb
  go_enter Tryd.func29, Tryd.ntmps29
  go_wp2
  go_loopw [1, 5] (fun kk i wr => ∃ j : Nat, j ≤ n ∧ i = .int .i64 j ∧ kk = .int .i64 ((k0 + j : Nat) : Int) ∧ Hid (Bk wr g 5 (marks k0 j ++ cs.drop j)) ∧ Hid (w.grownBy wr (some g))) (fun _ i _ => n - (intOf i).toNat)
  case atStart => exact ⟨0, Nat.zero_le _, rfl, rfl, HB.out, World.grownBy.refl _ _⟩
  case round =>
    obtain ⟨j, hj, rfl, rfl, HJ, HG⟩ := hrel
    by_cases hlt : j < n
    · obtain ⟨x, hxx⟩ := hint j hlt
      have hx : wr.cell? ⟨g, j, none⟩ = some (.int .u8 x) := by
        rw [HJ.out.cell, mark_at cs k0 j (by omega), ← hxx, List.getElem?_eq_getElem (by omega)]
      have hf : wr.frozen? ⟨g, j, none⟩ = false := HJ.out.free j
      clear hxx
      go_wp2
      go_roundw
      case rel =>
        refine ⟨j + 1, by omega, by go_num, by go_num, ?_, grown_set HG.out _ _⟩
        have := HJ.out.set j (.int .u8 (((k0 : Int) + (j : Int)) % 256))
        rw [mark_step cs k0 j n hlt hl] at this
        exact this
      case measure => simp [intOf]; omega
    · have hjn : j = n := by omega
      subst hjn
      go_wp2
      go_ret
      exact ⟨by go_num, HJ.out, HG.out⟩

theorem byte_ne_self (x : Int) : (x != x) = false := by simp

set_option maxHeartbeats 1000000 in
/-- heldByteS on a block that holds the marks. -/
theorem heldByteS_any (g n c k0 : Nat) (r : List Value) (w : World) (hb : Bk w g 5 (marks k0 n ++ r)) (hn : n ≤ 400000000) (hk0 : k0 ≤ 400000000) :
    Calls Tryd.prog 30 #[.slice (some ⟨g, 0, none⟩) n c, .int .i64 (k0 : Int)] w fun e w' => e = .returned (.int .i64 ((k0 + n : Nat) : Int)) ∧ w = w' := by
  have HB := Lib.hid hb
  clear hb
  go_enter Tryd.func30, Tryd.ntmps30
  go_wp2
  go_loop [1, 5] (fun kk i => ∃ j : Nat, j ≤ n ∧ i = .int .i64 j ∧ kk = .int .i64 ((k0 + j : Nat) : Int)) (fun _ i => n - (intOf i).toNat)
  case atStart => exact ⟨0, Nat.zero_le _, rfl, rfl⟩
  case round =>
    obtain ⟨j, hj, rfl, rfl⟩ := hrel
    by_cases hlt : j < n
    · have hx : w.cell? ⟨g, j, none⟩ = some (Value.int .u8 (((k0 : Int) + (j : Int)) % 256)) := by
        rw [HB.out.cell, List.getElem?_append_left (by rw [marks_length]; exact hlt), marks_at k0 n j hlt]
      have hne := byte_ne_self (((k0 : Int) + (j : Int)) % 256)
      go_wp2
      go_round
      case rel => exact ⟨j + 1, by omega, by go_num, by go_num⟩
      case measure => simp [intOf]; omega
    · have hjn : j = n := by omega
      subst hjn
      go_wp2
      go_ret
      exact ⟨by go_num, rfl⟩

/-- The law marks from 1 on. -/
theorem markByteS_one (g n c : Nat) (l : List UInt8) (r : List Value) (w : World) (hb : Bk w g 5 (l.map bv ++ r)) (hl : l.length = n) (hn : n ≤ 400000000) :
    Calls Tryd.prog 29 #[.slice (some ⟨g, 0, none⟩) n c, .int .i64 1] w fun e w' => e = .returned (.int .i64 (1 + (n : Int))) ∧ Bk w' g 5 (marks 1 n ++ r) ∧ w.grownBy w' (some g) := by
  refine (markByteS_any g n c 1 (l.map bv ++ r) w hb (fun j hj => ⟨((l[j]'(by omega)).toNat : Int), ?_⟩) (by simp; omega) hn (by omega)).mono fun e w' ⟨he, h1, h2⟩ => ⟨?_, ?_, h2⟩
  · rw [List.getElem?_append_left (by simp; omega), List.getElem?_map, List.getElem?_eq_getElem (by omega)]
    rfl
  · rw [he]; simp
  · rw [List.drop_append_of_le_length (by simp; omega), List.drop_eq_nil_of_le (by simp; omega), List.nil_append] at h1
    exact h1
theorem heldByteS_one (g n c : Nat) (r : List Value) (w : World) (hb : Bk w g 5 (marks 1 n ++ r)) (hn : n ≤ 400000000) :
    Calls Tryd.prog 30 #[.slice (some ⟨g, 0, none⟩) n c, .int .i64 1] w fun e w' => e = .returned (.int .i64 (1 + (n : Int))) ∧ w = w' :=
  (heldByteS_any g n c 1 r w hb hn (by omega)).mono fun e w' ⟨he, h1⟩ => ⟨by rw [he]; simp, h1⟩

end Go.Proofs.YtcpadkehalgddaaDoor.Eq

/- What the law's own helpers eqRecord and eqRecordS do on records that are the same: they return true and turn nothing. Condition: fewer than 400000001 records. -/
namespace Go.Proofs.YtcpadkehalgddaaDoor.EqR
open Go.RowKit Go.Proofs.YtcpadkehalgddaaDoor.Mem Go.Proofs.YtcpadkehalgddaaDoor.MemR

set_option maxHeartbeats 1000000 in
theorem eqRecord_same (r : Rec) (w : World) : Calls Tryd.prog 34 #[.agg #[.string r.name, .int .i64 r.ty, .int .i64 r.ttl, .int .i64 r.n, .string r.host, .string r.text], .agg #[.string r.name, .int .i64 r.ty, .int .i64 r.ttl, .int .i64 r.n, .string r.host, .string r.text]] w fun e w' => e = .returned (.bool true) ∧ Below w.heap.size w w' := by
  obtain ⟨name, ty, ttl, n, host, text⟩ := r
  simp only
  go_enter Tryd.func34, Tryd.ntmps34
  go_wp2
  go_ret
  exact ⟨rfl, ((Below.refl _ _).alloc (Nat.le_refl _) _).alloc (by simp) _⟩

set_option maxHeartbeats 1000000 in
theorem eqRecordS_same (A A' : Option Addr) (n c c' : Nat) (l : List Rec) (w : World) (hs : Sr w w.heap.size A n l) (hs' : Sr w w.heap.size A' n l) (hn : n ≤ 400000000) :
    Calls Tryd.prog 41 #[.slice A n c, .slice A' n c'] w fun e w' => e = .returned (.bool true) ∧ Below w.heap.size w w' := by
  have mixed : Tryd.prog.follows .mixedOrders = true := by kernel_rfl
  have hd : ((n : Int) != (n : Int)) = false := by simp
  have HS := Lib.hid hs
  have HT := Lib.hid hs'
  clear hs hs'
  go_enter Tryd.func41, Tryd.ntmps41
  go_wp2
  go_loopw [5] (fun i wr => ∃ k : Nat, k ≤ n ∧ i = .int .i64 k ∧ Hid (Below w.heap.size w wr)) (fun i _ => n - (intOf i).toNat)
  case atStart => exact ⟨0, Nat.zero_le _, rfl, Below.refl _ _⟩
  case round =>
    obtain ⟨k, hk, rfl, HL⟩ := hrel
    by_cases hlt : k < n
    · obtain ⟨b, off, rfl, hbB, hcs⟩ := HS.out.2 (by omega)
      obtain ⟨b', off', rfl, hbB', hcs'⟩ := HT.out.2 (by omega)
      have hkl : k < l.length := by rw [HS.out.1]; exact hlt
      have E := (hcs k hkl).below HL.out hbB
      have E' := (hcs' k hkl).below HL.out hbB'
      clear hcs hcs'
      generalize l[k] = r at *
      have x0 : ∀ d os, (Sort.grow (redrawn wr d) os).cell? _ = some _ := cell_regrown E.1
      have x1 : ∀ d os, (Sort.grow (redrawn wr d) os).cell? _ = some _ := cell_regrown E.2.1
      have x2 : ∀ d os, (Sort.grow (redrawn wr d) os).cell? _ = some _ := cell_regrown E.2.2.1
      have x3 : ∀ d os, (Sort.grow (redrawn wr d) os).cell? _ = some _ := cell_regrown E.2.2.2.1
      have x4 : ∀ d os, (Sort.grow (redrawn wr d) os).cell? _ = some _ := cell_regrown E.2.2.2.2.1
      have x5 : ∀ d os, (Sort.grow (redrawn wr d) os).cell? _ = some _ := cell_regrown E.2.2.2.2.2
      have y0 : ∀ d os, (Sort.grow (redrawn wr d) os).cell? _ = some _ := cell_regrown E'.1
      have y1 : ∀ d os, (Sort.grow (redrawn wr d) os).cell? _ = some _ := cell_regrown E'.2.1
      have y2 : ∀ d os, (Sort.grow (redrawn wr d) os).cell? _ = some _ := cell_regrown E'.2.2.1
      have y3 : ∀ d os, (Sort.grow (redrawn wr d) os).cell? _ = some _ := cell_regrown E'.2.2.2.1
      have y4 : ∀ d os, (Sort.grow (redrawn wr d) os).cell? _ = some _ := cell_regrown E'.2.2.2.2.1
      have y5 : ∀ d os, (Sort.grow (redrawn wr d) os).cell? _ = some _ := cell_regrown E'.2.2.2.2.2
      clear E E'
      go_wp2_with fail
      refine wp_region_quiet_below (by assumption) (by kernel_rfl) ?_
      repeat (quiet_step (first | (go_at_call 34; exact Calls.regrown_of (eqRecord_same _ _))))
      refine wpQuiet_nil ?_
      intro w2 hw2
      have L2 := Lib.hid (HL.out.trans ((show Below wr.heap.size wr w2 by obtain ⟨p, rfl⟩ := hw2; exact below_regrown _ _ _).mono HL.out.size))
      clear hw2 x0 x1 x2 x3 x4 x5 y0 y1 y2 y3 y4 y5
      go_wp2
      go_roundw
      case rel => exact ⟨k + 1, by omega, by go_num, L2.out⟩
      case measure => simp [intOf]; omega
    · go_wp2
      go_ret
      exact ⟨rfl, HL.out⟩

end Go.Proofs.YtcpadkehalgddaaDoor.EqR
