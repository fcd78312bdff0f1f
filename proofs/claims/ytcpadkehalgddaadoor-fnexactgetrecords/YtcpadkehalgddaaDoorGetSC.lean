/- What the model's GetData does, of one type each: as GetSA tells. -/
import Derived.Test.YtcpadkehalgddaaDoorGetSA
namespace Go.Proofs.YtcpadkehalgddaaDoor.GetSC
open Go.RowKit Go.Proofs.YtcpadkehalgddaaDoor.Mem Go.Proofs.YtcpadkehalgddaaDoor.MemR Go.Proofs.YtcpadkehalgddaaDoor.JoinSpec Go.Proofs.YtcpadkehalgddaaDoor.GetLabel Go.Proofs.YtcpadkehalgddaaDoor.BoxR Go.Proofs.YtcpadkehalgddaaDoor.NameOk Go.Proofs.YtcpadkehalgddaaDoor.TextR Go.Proofs.YtcpadkehalgddaaDoor.RecOk Go.Proofs.YtcpadkehalgddaaDoor.WireMath Go.Proofs.YtcpadkehalgddaaDoor.WireGood Go.Proofs.YtcpadkehalgddaaDoor.WalkSpec Go.Proofs.YtcpadkehalgddaaDoor.Get Go.Proofs.YtcpadkehalgddaaDoor.Label Go.Proofs.YtcpadkehalgddaaDoor.FieldMath Go.Proofs.YtcpadkehalgddaaDoor.FieldRd Go.Proofs.YtcpadkehalgddaaDoor.ResR Go.Proofs.YtcpadkehalgddaaDoor.GetI Go.Proofs.YtcpadkehalgddaaDoor.GetSA

set_option maxRecDepth 100000 in
set_option maxHeartbeats 2000000 in
theorem data_16 (A : Option Addr) (n c : Nat) (l : List UInt8) (k q : Int) (w : World) (hs : Sl w w.heap.size A n l) (hnc : n ≤ c) (hn : n ≤ 400000000) (h : 0 ≤ q ∧ q ≤ 255) (hk : ¬ (k < 0 ∨ (n : Int) - q < k)) :
    Calls Tryd.prog 31 #[.slice A n c, .int .i64 k, .int .i64 q, .int .i64 16] w fun e w' => e = .returned (val2 (gd l k q 16)) ∧ Below w.heap.size w w' := by
  have hl := hs.1
  have HI : Hid (decide ((0 : Int) ≤ q ∧ q ≤ 255) = true) := decide_eq_true h
  have HY : Hid (Types.ty 16 = true) := rfl
  have HX := Lib.hid (gd_16 h (by rw [hl]; exact hk))
  obtain ⟨h0, h1⟩ := h
  have hk0 : ¬ k < 0 := by omega
  have hk1 : ¬ (n : Int) - q < k := by omega
  obtain ⟨k', rfl⟩ := Int.eq_ofNat_of_zero_le (show 0 ≤ k by omega)
  obtain ⟨q', rfl⟩ := Int.eq_ofNat_of_zero_le h0
  generalize gd l (k' : Int) (q' : Int) 16 = X at *
  clear hk
  by_cases hq : q' < 1
  · have hq2 : (q' : Int) < 1 := by omega
    have HX2 : Hid (X = (2, zr)) := HX.out.trans (if_neg (fun e => by omega))
    clear HX hs hl
    go_enter Tryd.func31, Tryd.ntmps31
    go_wp2_with fail
    refine (l1In_any _ _ _ _).mono ?_
    rw [HI.out]
    rintro e w1 ⟨rfl, rfl⟩
    go_wp2_with fail
    refine (Types.spec_ok _ _).mono ?_
    rw [HY.out]
    rintro e w1 ⟨rfl, rfl⟩
    go_wp2
    refine bodyPost_ret (v := val2 (2, zr)) (res2 rfl ((box_a w).alloc _) rfl rfl) rfl ⟨by rw [HX2.out], low_c w 16⟩
  · have hq2 : ¬ (q' : Int) < 1 := by omega
    have hkl : k' < l.length := by omega
    have hkn : k' < n := by omega
    have HX2 : Hid (X = if (l[k'].toNat : Int) = (q' : Int) - 1 ∧ txo (piece l k' (q' - 1)) = true then (0, rT (piece l k' (q' - 1))) else (2, zr)) := by
      show _ = _
      rw [HX.out, ReadI.bt_at l k' hkl, Int.toNat_natCast, show ((q' : Int) - 1).toNat = q' - 1 by omega]
      by_cases hb : (l[k'].toNat : Int) = (q' : Int) - 1
      · by_cases ht : txo (piece l k' (q' - 1)) = true
        · rw [if_pos ⟨by omega, hb, ht⟩, if_pos ⟨hb, ht⟩]
        · rw [if_neg (fun e => ht e.2.2), if_neg (fun e => ht e.2)]
      · rw [if_neg (fun e => hb e.2.1), if_neg (fun e => hb e.1)]
    obtain ⟨b, off, rfl, hbB, hcs⟩ := hs.2 (by omega)
    have hx : w.cell? ⟨b, off + k', none⟩ = some (.int .u8 (l[k'].toNat : Int)) := hcs k' hkl
    have hx2 : (((w.alloc (.cells #[.string ⟨#[]⟩, .int .i64 0, .int .i64 0, .int .i64 0, .string ⟨#[]⟩, .string ⟨#[]⟩] 25)).alloc (.cells #[.string ⟨#[]⟩, .int .i64 0, .int .i64 0, .int .i64 0, .string ⟨#[]⟩, .string ⟨#[]⟩] 25)).alloc (.cells #[.string ⟨#[]⟩, .int .i64 16, .int .i64 0, .int .i64 0, .string ⟨#[]⟩, .string ⟨#[]⟩] 25)).cell? ⟨b, off + k', none⟩ = some (.int .u8 (l[k'].toNat : Int)) := ((low_c w 16).cell (p := ⟨b, off + k', none⟩) hbB).trans hx
    have hb1 : l[k'].toNat < 256 := l[k'].toNat_lt
    have HS := Lib.hid ((hs.below (low_c w 16)).wider (low_c w 16).size)
    clear HX hs hcs hl hx
    generalize l[k'].toNat = m at *
    by_cases hm : (m : Int) = (q' : Int) - 1
    · have hm2 : ((m : Int) != (q' : Int) - 1) = false := by simp [hm]
      obtain rfl : q' = m + 1 := by omega
      have hin : k' + 1 + m ≤ n := by omega
      have HI : Hid (decide ((0 : Int) ≤ (m : Int) + 1 ∧ (m : Int) + 1 ≤ 255) = true) := decide_eq_true (by omega)
      have hps := piece_le l k' m
      have HX3 : Hid (X = if txo (piece l k' m) = true then (0, rT (piece l k' m)) else (2, zr)) := by
        show _ = _
        rw [HX2.out, show m + 1 - 1 = m by omega]
        by_cases ht : txo (piece l k' m) = true
        · rw [if_pos ⟨by omega, ht⟩, if_pos ht]
        · rw [if_neg (fun e => ht e.2), if_neg ht]
      clear HX2 hm
      have hck := Classical.em (c = k' + 1)
      rcases hck with hck | hck
      · obtain rfl : m = 0 := by omega
        have hcv := fun A cap => conv_none (w := ((w.alloc (.cells #[.string ⟨#[]⟩, .int .i64 0, .int .i64 0, .int .i64 0, .string ⟨#[]⟩, .string ⟨#[]⟩] 25)).alloc (.cells #[.string ⟨#[]⟩, .int .i64 0, .int .i64 0, .int .i64 0, .string ⟨#[]⟩, .string ⟨#[]⟩] 25)).alloc (.cells #[.string ⟨#[]⟩, .int .i64 16, .int .i64 0, .int .i64 0, .string ⟨#[]⟩, .string ⟨#[]⟩] 25)) A cap l k'
        generalize piece l k' 0 = T at *
        obtain ⟨u, hu⟩ : ∃ u, txo T = u := ⟨_, rfl⟩
        have HU := Lib.hid hu
        rw [hu] at HX3
        clear hu
        go_enter Tryd.func31, Tryd.ntmps31
        go_wp2_with fail
        refine (l1In_any _ _ _ _).mono ?_
        rw [show (decide ((0 : Int) ≤ 1 ∧ (1 : Int) ≤ 255)) = true from by decide]
        rintro e w1 ⟨rfl, rfl⟩
        go_wp2_with fail
        refine (Types.spec_ok _ _).mono ?_
        rw [HY.out]
        rintro e w1 ⟨rfl, rfl⟩
        go_wp2_with fail
        refine (TextR.spec T _ (by omega)).mono ?_
        rw [HU.out]
        rintro e w1 ⟨rfl, rfl⟩
        cases u
        · go_wp2
          refine bodyPost_ret (v := val2 (2, zr)) (res2 rfl ((box_a w).alloc _) rfl rfl) rfl ⟨by rw [HX3.out]; rfl, (low_b w).alloc (by first | (simp; done) | (simp; omega)) _⟩
        · go_wp2
          refine bodyPost_ret (v := val2 (0, rT T)) (res2 rfl (((show Bk _ w.heap.size 25 (rc (rT T)) from heap_alloc_new w _).alloc _).alloc _) rfl rfl) rfl ⟨by rw [HX3.out]; rfl, (((Below.refl _ _).alloc (Nat.le_refl _) _).alloc (by simp) _).alloc (by first | (simp; done) | (simp; omega)) _⟩
      · have hcv : ∀ cap, (convert 22 9 (.slice (some ⟨b, off + (k' + 1), none⟩) (k' + (m + 1) - (k' + 1)) cap)).run Tryd.prog _ = .ok (.string (piece l k' m)) _ := fun cap => by rw [show k' + (m + 1) - (k' + 1) = m by omega]; exact conv_piece HS.out k' m cap hin
        generalize piece l k' m = T at *
        obtain ⟨u, hu⟩ : ∃ u, txo T = u := ⟨_, rfl⟩
        have HU := Lib.hid hu
        rw [hu] at HX3
        clear hu
        go_enter Tryd.func31, Tryd.ntmps31
        go_wp2_with fail
        refine (l1In_any _ _ _ _).mono ?_
        rw [HI.out]
        rintro e w1 ⟨rfl, rfl⟩
        go_wp2_with fail
        refine (Types.spec_ok _ _).mono ?_
        rw [HY.out]
        rintro e w1 ⟨rfl, rfl⟩
        go_wp2_with fail
        refine (TextR.spec T _ (by omega)).mono ?_
        rw [HU.out]
        rintro e w1 ⟨rfl, rfl⟩
        cases u
        · go_wp2
          refine bodyPost_ret (v := val2 (2, zr)) (res2 rfl ((box_a w).alloc _) rfl rfl) rfl ⟨by rw [HX3.out]; rfl, (low_b w).alloc (by first | (simp; done) | (simp; omega)) _⟩
        · go_wp2
          refine bodyPost_ret (v := val2 (0, rT T)) (res2 rfl (((show Bk _ w.heap.size 25 (rc (rT T)) from heap_alloc_new w _).alloc _).alloc _) rfl rfl) rfl ⟨by rw [HX3.out]; rfl, (((Below.refl _ _).alloc (Nat.le_refl _) _).alloc (by simp) _).alloc (by first | (simp; done) | (simp; omega)) _⟩
    · have hm2 : ((m : Int) != (q' : Int) - 1) = true := by simpa using hm
      have HX3 : Hid (X = (2, zr)) := HX2.out.trans (if_neg (fun e => hm e.1))
      clear HX2 hm
      go_enter Tryd.func31, Tryd.ntmps31
      go_wp2_with fail
      refine (l1In_any _ _ _ _).mono ?_
      rw [HI.out]
      rintro e w1 ⟨rfl, rfl⟩
      go_wp2_with fail
      refine (Types.spec_ok _ _).mono ?_
      rw [HY.out]
      rintro e w1 ⟨rfl, rfl⟩
      go_wp2
      refine bodyPost_ret (v := val2 (2, zr)) (res2 rfl ((box_a w).alloc _) rfl rfl) rfl ⟨by rw [HX3.out], low_c w 16⟩

end Go.Proofs.YtcpadkehalgddaaDoor.GetSC
