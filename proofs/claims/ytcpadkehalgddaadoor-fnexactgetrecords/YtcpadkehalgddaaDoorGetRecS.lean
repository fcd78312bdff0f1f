/- What the model's GetData and GetRecord do: they read as FieldMath tells (gd, gr), and turn nothing that was there. Condition: at most 400000000 bytes. -/
import Derived.Test.YtcpadkehalgddaaDoorGetSB
import Derived.Test.YtcpadkehalgddaaDoorGetSC
import Derived.Test.YtcpadkehalgddaaDoorGetSD
import Derived.Test.YtcpadkehalgddaaDoorGetRecI
namespace Go.Proofs.YtcpadkehalgddaaDoor.GetRecS
open Go.RowKit Go.Proofs.YtcpadkehalgddaaDoor.Mem Go.Proofs.YtcpadkehalgddaaDoor.MemR Go.Proofs.YtcpadkehalgddaaDoor.JoinSpec Go.Proofs.YtcpadkehalgddaaDoor.BoxR Go.Proofs.YtcpadkehalgddaaDoor.NameOk Go.Proofs.YtcpadkehalgddaaDoor.TextR Go.Proofs.YtcpadkehalgddaaDoor.RecOk Go.Proofs.YtcpadkehalgddaaDoor.WireMath Go.Proofs.YtcpadkehalgddaaDoor.WireGood Go.Proofs.YtcpadkehalgddaaDoor.WalkSpec Go.Proofs.YtcpadkehalgddaaDoor.FieldMath Go.Proofs.YtcpadkehalgddaaDoor.FieldRd Go.Proofs.YtcpadkehalgddaaDoor.ResR Go.Proofs.YtcpadkehalgddaaDoor.GetI Go.Proofs.YtcpadkehalgddaaDoor.GetSA Go.Proofs.YtcpadkehalgddaaDoor.GetRecI

theorem data (A : Option Addr) (n c : Nat) (l : List UInt8) (k q ty : Int) (w : World) (hs : Sl w w.heap.size A n l) (hnc : n ≤ c) (hn : n ≤ 400000000) :
    Calls Tryd.prog 31 #[.slice A n c, .int .i64 k, .int .i64 q, .int .i64 ty] w fun e w' => e = .returned (val2 (gd l k q ty)) ∧ Below w.heap.size w w' := by
  by_cases h : 0 ≤ q ∧ q ≤ 255
  · by_cases ht : ty = 1 ∨ ty = 2 ∨ ty = 5 ∨ ty = 6 ∨ ty = 16
    · by_cases hk : k < 0 ∨ (n : Int) - q < k
      · exact data_o A n c l k q ty w hs hn h ht hk
      · rcases ht with rfl | rfl | rfl | rfl | rfl
        · exact data_1 A n c l k q w hs hn h hk
        · exact GetSB.data_2 A n c l k q w hs hnc hn h hk
        · exact GetSB.data_5 A n c l k q w hs hnc hn h hk
        · exact GetSD.data_6 A n c l k q w hs hnc hn h hk
        · exact GetSC.data_16 A n c l k q w hs hnc hn h hk
    · exact data_t A n c l k q ty w hs hn h ht
  · exact data_n A n c l k q ty w h
/-- What GetData gives is not long, if it succeeds. -/
theorem gd_small {l : List UInt8} {k n ty : Int} {r : Rec} (h : gd l k n ty = (0, r)) : DataS.Med r := by
  unfold gd at h
  have hz : DataS.Med zr := ⟨by decide, by decide, by decide⟩
  split at h
  · simp at h
  · split at h
    · simp at h
    · split at h
      · split at h
        · simp only [Prod.mk.injEq, true_and] at h
          rw [← h]
          exact ⟨by show (0 : Nat) ≤ _; omega, by show (0 : Nat) ≤ _; omega, by show (0 : Nat) ≤ _; omega⟩
        · simp at h
      · split at h
        · split at h
          · rename_i hn _ _ _ hp
            simp only [Prod.mk.injEq, true_and] at h
            rw [← h]
            have hp := piece_le l k.toNat (n - 1).toNat
            exact ⟨by show (0 : Nat) ≤ _; omega, by show (0 : Nat) ≤ _; omega, by show (GetLabel.piece l k.toNat (n - 1).toNat).size ≤ _; omega⟩
          · simp at h
        · split at h
          · split at h
            · rename_i hc
              simp only [Prod.mk.injEq] at h
              exact absurd h.1 hc
            · rename_i hc
              split at h
              · simp only [Prod.mk.injEq, true_and] at h
                rw [← h]
                exact ⟨by show (0 : Nat) ≤ _; omega, Nat.le_trans (name_le (Decidable.byContradiction hc)) (by decide), by show (0 : Nat) ≤ _; omega⟩
              · simp at h
          · split at h
            · split at h
              · rename_i hc
                simp only [Prod.mk.injEq] at h
                exact absurd h.1 hc
              · rename_i hc
                split at h
                · simp only [Prod.mk.injEq, true_and] at h
                  rw [← h]
                  exact ⟨by show (0 : Nat) ≤ _; omega, Nat.le_trans (name_le (Decidable.byContradiction hc)) (by decide), by show (0 : Nat) ≤ _; omega⟩
                · simp at h
            · simp at h
/-- The record's answer, told of what the model's GetData gave. -/
theorem gr_of {l : List UInt8} {k : Int} {L : List ByteArray} {p : Int} {j c : Nat} {r : Rec} (h : rn l [] k k 0 (-1) = (0, L, p, j)) (hp : ¬ (l.length : Int) - 10 < p) (hd : gd l (p + 10) (FieldMath.n2 l (p + 8)).1 (FieldMath.n2 l p).1 = (c, r)) :
    gr l k = if c ≠ 0 then (c, 0, zr) else if (FieldMath.n4 l (p + 4)).2 = true ∧ (FieldMath.n2 l (p + 2)).1 = 1 ∧ rok (wn r (Jo L) (FieldMath.n4 l (p + 4)).1) = true then (0, p + 10 + (FieldMath.n2 l (p + 8)).1, wn r (Jo L) (FieldMath.n4 l (p + 4)).1) else (2, 0, zr) := by
  by_cases hc : c ≠ 0
  · rw [if_pos hc]
    exact gr_data h hp hd hc
  · have hc0 : c = 0 := Decidable.byContradiction hc
    subst hc0
    rw [if_neg hc]
    split
    · rename_i hg
      exact gr_good h hp hd hg
    · rename_i hg
      exact gr_form h hp hd hg

set_option maxRecDepth 100000 in
set_option maxHeartbeats 4000000 in
theorem record (A : Option Addr) (n c : Nat) (l : List UInt8) (k : Int) (w : World) (hs : Sl w w.heap.size A n l) (hnc : n ≤ c) (hn : n ≤ 400000000) :
    Calls Tryd.prog 37 #[.slice A n c, .int .i64 k] w fun e w' => e = .returned (valR (gr l k)) ∧ Below w.heap.size w w' := by
  have hl := hs.1
  have GN := Lib.hid (fun W (hW : Below w.heap.size w W) => WalkSpec.getName A n c l k W _ rfl ((hs.below hW).wider hW.size) hn hnc)
  generalize hR : rn l [] k k 0 (-1) = R at *
  obtain ⟨c0, L, p, j⟩ := R
  unfold val3 at GN
  dsimp only at GN
  by_cases hc : c0 = 0
  · subst hc
    have HF := rn_from hR
    obtain ⟨_, _, hp1, hp2, _⟩ := rn_good hR
    have hp0 : 0 ≤ p := by omega
    rw [hl] at hp2
    clear hp1 HF
    by_cases hs10 : (n : Int) - 10 < p
    · have HX := Lib.hid (gr_short hR (by rw [hl]; exact hs10))
      generalize gr l k = X at *
      generalize Jo L = s at *
      clear hs hl hR
      go_enter Tryd.func37, Tryd.ntmps37
      go_wp2_with fail
      refine (GN.out _ (low_b w)).mono ?_
      rintro e w1 ⟨rfl, hl⟩
      have L1 := Lib.hid ((low_b w).trans (hl.mono (low_b w).size))
      have Z1 := Lib.hid (Bk.below (box_a w) hl (box_a w).lt)
      have N1 := Lib.hid (Bk.below (box_b w) hl (box_b w).lt)
      clear hl
      obtain ⟨z0, z1, z2, z3, z4, z5⟩ := bx_of Z1.out
      obtain ⟨n0, n1, n2, n3, n4, n5⟩ := bx_of N1.out
      have f0 := Z1.out.free 0
      have f1 := Z1.out.free 1
      have f2 := Z1.out.free 2
      have f3 := Z1.out.free 3
      have f4 := Z1.out.free 4
      have f5 := Z1.out.free 5
      go_wp2
      refine bodyPost_ret (v := valR (1, 0, zr)) (res3 rfl (fil_bk Z1.out zr) rfl rfl rfl) rfl ⟨by rw [HX.out], fil_below L1.out (Nat.le_refl _) zr⟩
    · have HG2 := Lib.hid (fun (q : Int) (W : World) (hW : Below w.heap.size w W) => get2 A n c l q W _ (hs.below hW) hn)
      have HG4 := Lib.hid (fun (q : Int) (W : World) (hW : Below w.heap.size w W) => get4 A n c l q W _ (hs.below hW) hn)
      have HGD := Lib.hid (fun (q m t : Int) (W : World) (hW : Below w.heap.size w W) => data A n c l q m t W ((hs.below hW).wider hW.size) hnc hn)
      generalize hD : gd l (p + 10) (FieldMath.n2 l (p + 8)).1 (FieldMath.n2 l p).1 = D at *
      obtain ⟨dc, yr⟩ := D
      have HX := Lib.hid (gr_of hR (by rw [hl]; exact hs10) hD)
      have HM := Lib.hid (fun (e : dc = 0) => gd_small (r := yr) (by rw [hD, e]))
      have HNL : Hid ((Jo L).size ≤ 50) := (Plain.nm_parts (rn_good hR).2.1).1
      have h1 := (n2_in (l := l) (k := p) hp0 (by omega)).2
      have h2 := (n2_in (l := l) (k := p + 2) (by omega) (by omega)).2
      have h8 := (n2_in (l := l) (k := p + 8) (by omega) (by omega)).2
      have hG1 := HG2.out p
      have hG2 := HG2.out (p + 2)
      have hG8 := HG2.out (p + 8)
      have hG4 := HG4.out (p + 4)
      have hGD := HGD.out (p + 10) (FieldMath.n2 l (p + 8)).1 (FieldMath.n2 l p).1
      rw [hD] at hGD
      generalize gr l k = X at *
      generalize Jo L = s at *
      clear hD
      generalize FieldMath.n2 l p = y1 at *
      generalize FieldMath.n2 l (p + 2) = y2 at *
      generalize FieldMath.n2 l (p + 8) = y8 at *
      generalize FieldMath.n4 l (p + 4) = y4 at *
      obtain ⟨ty, b1⟩ := y1
      obtain ⟨cl, b2⟩ := y2
      obtain ⟨q, b8⟩ := y8
      obtain ⟨tt, b4⟩ := y4
      dsimp only at h1 h2 h8 hG1 hG2 hG8 hG4 hGD HX
      obtain ⟨h10, h11⟩ := h1
      obtain ⟨h20, h21⟩ := h2
      obtain ⟨h80, h81⟩ := h8
      have G1 := Lib.hid hG1
      have G2 := Lib.hid hG2
      have G8 := Lib.hid hG8
      have G4 := Lib.hid hG4
      have GD := Lib.hid hGD
      clear hG1 hG2 hG8 hG4 hGD HG2 HG4 HGD hs hl hR
      go_enter Tryd.func37, Tryd.ntmps37
      go_wp2_with fail
      refine (GN.out _ (low_b w)).mono ?_
      rintro e w1 ⟨rfl, hl⟩
      have L1 := Lib.hid ((low_b w).trans (hl.mono (low_b w).size))
      have Z1 := Lib.hid (Bk.below (box_a w) hl (box_a w).lt)
      have N1 := Lib.hid (Bk.below (box_b w) hl (box_b w).lt)
      clear hl
      go_wp2_with fail
      refine (G1.out _ L1.out).mono ?_
      rintro e w2 ⟨rfl, hl⟩
      have L2 := Lib.hid (L1.out.trans (hl.mono L1.out.size))
      have Z2 := Lib.hid (Z1.out.below hl Z1.out.lt)
      have N2 := Lib.hid (N1.out.below hl N1.out.lt)
      clear hl L1 Z1 N1
      go_wp2_with fail
      refine (G2.out _ L2.out).mono ?_
      rintro e w3 ⟨rfl, hl⟩
      have L3 := Lib.hid (L2.out.trans (hl.mono L2.out.size))
      have Z3 := Lib.hid (Z2.out.below hl Z2.out.lt)
      have N3 := Lib.hid (N2.out.below hl N2.out.lt)
      clear hl L2 Z2 N2
      go_wp2_with fail
      refine (G4.out _ L3.out).mono ?_
      rintro e w4 ⟨rfl, hl⟩
      have L4 := Lib.hid (L3.out.trans (hl.mono L3.out.size))
      have Z4 := Lib.hid (Z3.out.below hl Z3.out.lt)
      have N4 := Lib.hid (N3.out.below hl N3.out.lt)
      clear hl L3 Z3 N3
      go_wp2_with fail
      refine (G8.out _ L4.out).mono ?_
      rintro e w5 ⟨rfl, hl⟩
      have L5 := Lib.hid (L4.out.trans (hl.mono L4.out.size))
      have Z5 := Lib.hid (Z4.out.below hl Z4.out.lt)
      have N5 := Lib.hid (N4.out.below hl N4.out.lt)
      clear hl L4 Z4 N4
      go_wp2_with fail
      refine (GD.out _ L5.out).mono ?_
      rintro e w6 ⟨rfl, hl⟩
      have L6 := Lib.hid (L5.out.trans (hl.mono L5.out.size))
      have Z6 := Lib.hid (Z5.out.below hl Z5.out.lt)
      have N6 := Lib.hid (N5.out.below hl N5.out.lt)
      clear hl L5 Z5 N5
      clear G1 G2 G4 G8 GD GN
      unfold val2
      dsimp only
      by_cases hdc : dc = 0
      · subst hdc
        have HX2 := Lib.hid (HX.out.trans (if_neg (fun e => e rfl)))
        have hmed := HM.out rfl
        have RO := Lib.hid (fun W => RecOk.spec (wn yr s tt) W (show Mod (wn yr s tt) from ⟨Nat.le_trans HNL.out (by decide), (hmed.mod).2.1, (hmed.mod).2.2⟩))
        unfold wn at RO
        dsimp only at RO
        have L7 := Lib.hid (L6.out.alloc L6.out.size (.cells #[.string s, .int .i64 yr.ty, .int .i64 tt, .int .i64 yr.n, .string yr.host, .string yr.text] 25))
        have Z7 := Lib.hid (Z6.out.alloc (.cells #[.string s, .int .i64 yr.ty, .int .i64 tt, .int .i64 yr.n, .string yr.host, .string yr.text] 25))
        have N7 := Lib.hid (N6.out.alloc (.cells #[.string s, .int .i64 yr.ty, .int .i64 tt, .int .i64 yr.n, .string yr.host, .string yr.text] 25))
        have X7 := Lib.hid (bx_new w6 25 (wn yr s tt))
        clear HX HM hmed
        obtain ⟨z0, z1, z2, z3, z4, z5⟩ := bx_of Z7.out
        obtain ⟨n0, n1, n2, n3, n4, n5⟩ := bx_of N7.out
        have f0 := Z7.out.free 0
        have f1 := Z7.out.free 1
        have f2 := Z7.out.free 2
        have f3 := Z7.out.free 3
        have f4 := Z7.out.free 4
        have f5 := Z7.out.free 5
        cases b4
        · have HX3 : Hid (X = (2, 0, zr)) := HX2.out.trans (if_neg (fun e => by simp at e))
          clear HX2
          go_wp2
          refine bodyPost_ret (v := valR (2, 0, zr)) (res3 rfl (fil_bk Z7.out zr) rfl rfl rfl) rfl ⟨by rw [HX3.out], fil_below L7.out (Nat.le_refl _) zr⟩
        · by_cases hcl : cl = 1
          · have hcl2 : (cl != 1) = false := by simp [hcl]
            obtain ⟨u, hu⟩ : ∃ u, rok (wn yr s tt) = u := ⟨_, rfl⟩
            have HU := Lib.hid hu
            have HX3 : Hid (X = if u = true then (0, p + 10 + q, wn yr s tt) else (2, 0, zr)) := by
              show _ = _
              rw [HX2.out, hu]
              cases u <;> simp [hcl]
            clear hu HX2 hcl
            go_wp2_with fail
            refine (RO.out _).mono ?_
            rw [show rok ⟨s, yr.ty, tt, yr.n, yr.host, yr.text⟩ = u from HU.out]
            rintro e w8 ⟨rfl, hl⟩
            have L8 := Lib.hid (L7.out.trans (hl.mono L7.out.size))
            have Z8 := Lib.hid (Z7.out.below hl Z7.out.lt)
            have N8 := Lib.hid (N7.out.below hl N7.out.lt)
            have X8 := Lib.hid (X7.out.below hl)
            clear hl L7 Z7 N7 X7 z0 z1 z2 z3 z4 z5 n0 n1 n2 n3 n4 n5 f0 f1 f2 f3 f4 f5
            obtain ⟨z0, z1, z2, z3, z4, z5⟩ := bx_of Z8.out
            obtain ⟨n0, n1, n2, n3, n4, n5⟩ := bx_of N8.out
            have f0 := Z8.out.free 0
            have f1 := Z8.out.free 1
            have f2 := Z8.out.free 2
            have f3 := Z8.out.free 3
            have f4 := Z8.out.free 4
            have f5 := Z8.out.free 5
            cases u
            · go_wp2
              refine bodyPost_ret (v := valR (2, 0, zr)) (res3 rfl (fil_bk Z8.out zr) rfl rfl rfl) rfl ⟨by rw [HX3.out]; rfl, fil_below L8.out (Nat.le_refl _) zr⟩
            · obtain ⟨x0, x1, x2, x3, x4, x5⟩ := X8.out
              have x0 : w8.cell? ⟨w6.heap.size, 0, none⟩ = some (.string s) := x0
              have x1 : w8.cell? ⟨w6.heap.size, 1, none⟩ = some (.int .i64 yr.ty) := x1
              have x2 : w8.cell? ⟨w6.heap.size, 2, none⟩ = some (.int .i64 tt) := x2
              have x3 : w8.cell? ⟨w6.heap.size, 3, none⟩ = some (.int .i64 yr.n) := x3
              have x4 : w8.cell? ⟨w6.heap.size, 4, none⟩ = some (.string yr.host) := x4
              have x5 : w8.cell? ⟨w6.heap.size, 5, none⟩ = some (.string yr.text) := x5
              go_wp2
              refine bodyPost_ret (v := valR (0, p + 10 + q, wn yr s tt)) (res3 rfl (fil_bk Z8.out (wn yr s tt)) rfl rfl rfl) rfl ⟨by rw [HX3.out]; rfl, fil_below L8.out (Nat.le_refl _) (wn yr s tt)⟩
          · have hcl2 : (cl != 1) = true := by simpa using hcl
            have HX3 : Hid (X = (2, 0, zr)) := HX2.out.trans (if_neg (fun e => hcl e.2.1))
            clear HX2 hcl
            go_wp2
            refine bodyPost_ret (v := valR (2, 0, zr)) (res3 rfl (fil_bk Z7.out zr) rfl rfl rfl) rfl ⟨by rw [HX3.out], fil_below L7.out (Nat.le_refl _) zr⟩
      · have HX2 := Lib.hid (HX.out.trans (if_pos hdc))
        have hc2 : ((dc : Int) != 0) = true := by simp; omega
        have L7 := Lib.hid (L6.out.alloc L6.out.size (.cells #[.string yr.name, .int .i64 yr.ty, .int .i64 yr.ttl, .int .i64 yr.n, .string yr.host, .string yr.text] 25))
        have Z7 := Lib.hid (Z6.out.alloc (.cells #[.string yr.name, .int .i64 yr.ty, .int .i64 yr.ttl, .int .i64 yr.n, .string yr.host, .string yr.text] 25))
        have N7 := Lib.hid (N6.out.alloc (.cells #[.string yr.name, .int .i64 yr.ty, .int .i64 yr.ttl, .int .i64 yr.n, .string yr.host, .string yr.text] 25))
        clear HX HM
        obtain ⟨z0, z1, z2, z3, z4, z5⟩ := bx_of Z7.out
        obtain ⟨n0, n1, n2, n3, n4, n5⟩ := bx_of N7.out
        have f0 := Z7.out.free 0
        have f1 := Z7.out.free 1
        have f2 := Z7.out.free 2
        have f3 := Z7.out.free 3
        have f4 := Z7.out.free 4
        have f5 := Z7.out.free 5
        go_wp2
        refine bodyPost_ret (v := valR (dc, 0, zr)) (res3 rfl (fil_bk Z7.out zr) rfl rfl rfl) rfl ⟨by rw [HX2.out], fil_below L7.out (Nat.le_refl _) zr⟩
  · have HX := Lib.hid (gr_name hR hc)
    have hc2 : ((c0 : Int) != 0) = true := by simp; omega
    generalize gr l k = X at *
    generalize Jo L = s at *
    clear hs hl hR
    go_enter Tryd.func37, Tryd.ntmps37
    go_wp2_with fail
    refine (GN.out _ (low_b w)).mono ?_
    rintro e w1 ⟨rfl, hl⟩
    have L1 := Lib.hid ((low_b w).trans (hl.mono (low_b w).size))
    have Z1 := Lib.hid (Bk.below (box_a w) hl (box_a w).lt)
    have N1 := Lib.hid (Bk.below (box_b w) hl (box_b w).lt)
    clear hl
    obtain ⟨z0, z1, z2, z3, z4, z5⟩ := bx_of Z1.out
    obtain ⟨n0, n1, n2, n3, n4, n5⟩ := bx_of N1.out
    have f0 := Z1.out.free 0
    have f1 := Z1.out.free 1
    have f2 := Z1.out.free 2
    have f3 := Z1.out.free 3
    have f4 := Z1.out.free 4
    have f5 := Z1.out.free 5
    go_wp2
    refine bodyPost_ret (v := valR (c0, 0, zr)) (res3 rfl (fil_bk Z1.out zr) rfl rfl rfl) rfl ⟨by rw [HX.out], fil_below L1.out (Nat.le_refl _) zr⟩
end Go.Proofs.YtcpadkehalgddaaDoor.GetRecS
