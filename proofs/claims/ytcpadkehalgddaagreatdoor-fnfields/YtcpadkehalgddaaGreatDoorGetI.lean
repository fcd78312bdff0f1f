/- What the program's GetData does: it reads as FieldMath tells (gd, and the look at the record besides: fx), and turns nothing that was there. Conditions: at most 400000000 bytes; the library's variable internal/bytealg.MaxLen holds an int. -/
import Derived.Test.YtcpadkehalgddaaGreatDoorReadI
import Derived.Test.YtcpadkehalgddaaGreatDoorWireGood
import Derived.Test.YtcpadkehalgddaaGreatDoorDataS
namespace Go.Proofs.YtcpadkehalgddaaGreatDoor.GetI
open Go.RowKit Go.Proofs.YtcpadkehalgddaaGreatDoor.Mem Go.Proofs.YtcpadkehalgddaaGreatDoor.MemR Go.Proofs.YtcpadkehalgddaaGreatDoor.JoinSpec Go.Proofs.YtcpadkehalgddaaGreatDoor.Labels Go.Proofs.YtcpadkehalgddaaGreatDoor.BoxR Go.Proofs.YtcpadkehalgddaaGreatDoor.NameOk Go.Proofs.YtcpadkehalgddaaGreatDoor.TextR Go.Proofs.YtcpadkehalgddaaGreatDoor.RecOk Go.Proofs.YtcpadkehalgddaaGreatDoor.WireMath Go.Proofs.YtcpadkehalgddaaGreatDoor.FieldMath Go.Proofs.YtcpadkehalgddaaGreatDoor.FieldRd Go.Proofs.YtcpadkehalgddaaGreatDoor.ResR Go.Proofs.YtcpadkehalgddaaGreatDoor.ReadI Go.Proofs.YtcpadkehalgddaaGreatDoor.WireGood Go.Proofs.YtcpadkehalgddaaGreatDoor.Plain

/-- What GetData hands back. A def, so that no step of a walk opens it. -/
def val2 (X : Nat × Rec) : Value := .tuple #[.agg #[.string (X.2).name, .int .i64 (X.2).ty, .int .i64 (X.2).ttl, .int .i64 (X.2).n, .string (X.2).host, .string (X.2).text], .int .i64 (X.1 : Int)]
theorem piece_le (l : List UInt8) (k m : Nat) : (GetLabel.piece l k m).size ≤ m := by
  show ((l.drop (k + 1)).take m).toArray.size ≤ m
  simp
  omega
theorem name_le {l : List UInt8} {k : Int} (h : (rn l [] k k 0 (-1)).1 = 0) : (Jo (rn l [] k k 0 (-1)).2.1).size ≤ 50 := by
  generalize hr : rn l [] k k 0 (-1) = R at *
  obtain ⟨c, L, x, j⟩ := R
  have h : c = 0 := h
  subst h
  exact (nm_parts (rn_good hr).2.1).1
/-- A record that was read is not long. -/
theorem rdd_mod (l : List UInt8) (k ty : Int) (h : (rdd l k ty).1 = 0) : DataS.Med (rdd l k ty).2.2 := by
  have hz : DataS.Med zr := ⟨by decide, by decide, by decide⟩
  unfold rdd at h ⊢
  split at h
  · rename_i h1
    rw [if_pos h1]
    unfold rdA at h ⊢
    split
    · exact ⟨by show (0 : Nat) ≤ _; omega, by show (0 : Nat) ≤ _; omega, by show (0 : Nat) ≤ _; omega⟩
    · exact hz
  · rename_i h1
    rw [if_neg h1]
    split at h
    · rename_i h2
      rw [if_pos h2]
      exact ⟨by show (0 : Nat) ≤ _; omega, Nat.le_trans (name_le h) (by decide), by show (0 : Nat) ≤ _; omega⟩
    · rename_i h2
      rw [if_neg h2]
      split at h
      · rename_i h6
        rw [if_pos h6]
        unfold rdS at h ⊢
        split at h
        · rename_i hc
          rw [if_pos hc]
          exact hz
        · rename_i hc
          rw [if_neg hc]
          have hc : (rn l [] k k 0 (-1)).1 = 0 := Decidable.byContradiction hc
          split
          · exact ⟨by show (0 : Nat) ≤ _; omega, Nat.le_trans (name_le hc) (by decide), by show (0 : Nat) ≤ _; omega⟩
          · exact hz
      · rename_i h6
        rw [if_neg h6]
        split at h
        · rename_i h16
          rw [if_pos h16]
          unfold rdT at h ⊢
          split
          · exact hz
          · split
            · exact hz
            · have hb := bt_bounds l k
              have hp := piece_le l k.toNat (bt l k).toNat
              exact ⟨by show (0 : Nat) ≤ _; omega, by show (0 : Nat) ≤ _; omega, by show (GetLabel.piece l k.toNat (bt l k).toNat).size ≤ _; omega⟩
        · exact absurd h (by decide)

set_option maxRecDepth 100000 in
set_option maxHeartbeats 2000000 in
theorem data (A : Option Addr) (n c : Nat) (l : List UInt8) (k q ty : Int) (w : World) (he : Env w) (hs : Sl w w.heap.size A n l) (hnc : n ≤ c) (hn : n ≤ 400000000) :
    Calls Tryz.prog 15 #[.slice A n c, .int .i64 k, .int .i64 q, .int .i64 ty] w fun e w' => e = .returned (val2 (fx (gd l k q ty))) ∧ Below w.heap.size w w' := by
  have hl := hs.1
  have L0 := Lib.hid ((Below.refl w.heap.size w).alloc (Nat.le_refl _) (.cells #[.string ⟨#[]⟩, .int .i64 0, .int .i64 0, .int .i64 0, .string ⟨#[]⟩, .string ⟨#[]⟩] 25))
  by_cases h : 0 ≤ q ∧ q ≤ 255
  · have HI : Hid (inn q 0 255 = true) := decide_eq_true h
    by_cases hk : k < 0 ∨ (n : Int) - q < k
    · have HX : Hid (fx (gd l k q ty) = (1, zr)) := by show _ = _; rw [gd_out h (by rw [hl]; exact hk)]; exact fx_bad (by decide)
      generalize fx (gd l k q ty) = X at *
      clear hs hl he
      obtain ⟨h0, h1⟩ := h
      rcases (show k < 0 ∨ (¬ k < 0 ∧ (n : Int) - q < k) by omega) with hk | ⟨hk0, hk⟩
      all_goals
        go_enter Tryz.func15, Tryz.ntmps15
        go_wp2_with fail
        refine (upTo_any q 255 _).mono ?_
        rw [HI.out]
        rintro e w1 ⟨rfl, rfl⟩
        go_wp2
        refine bodyPost_ret (v := val2 (1, zr)) (res2 rfl (show Bk _ w.heap.size 25 (rc zr) from heap_alloc_new w _) rfl rfl) rfl ⟨by rw [HX.out], L0.out⟩
    · have HX := Lib.hid (rdd_gd (ty := ty) h (by rw [hl]; exact hk))
      have RD := Lib.hid (fun W (hW : Below w.heap.size w W) => readData A n c l k ty W (he.below hW) ((hs.below hW).wider hW.size) hnc hn (by omega))
      have HM := Lib.hid (rdd_mod l k ty)
      have HE := Lib.hid he
      have Z0 : Hid (Bk (w.alloc (.cells #[.string ⟨#[]⟩, .int .i64 0, .int .i64 0, .int .i64 0, .string ⟨#[]⟩, .string ⟨#[]⟩] 25)) w.heap.size 25 (rc zr)) := heap_alloc_new w _
      generalize fx (gd l k q ty) = X at *
      generalize rdd l k ty = Y at *
      obtain ⟨yc, yn, yr⟩ := Y
      dsimp only at HX HM
      clear hs hl he
      obtain ⟨h0, h1⟩ := h
      have hk0 : ¬ k < 0 := by omega
      have hk1 : ¬ (n : Int) - q < k := by omega
      clear hk
      go_enter Tryz.func15, Tryz.ntmps15
      go_wp2_with fail
      refine (upTo_any q 255 _).mono ?_
      rw [HI.out]
      rintro e w1 ⟨rfl, rfl⟩
      go_wp2_with fail
      refine (RD.out _ L0.out).mono ?_
      rintro e w1 ⟨v, rfl, hv, hl⟩
      dsimp only at hv ⊢
      have HV := Lib.hid hv
      have L1 := Lib.hid (L0.out.trans (hl.mono L0.out.size))
      have Z1 := Lib.hid (Z0.out.below hl Z0.out.lt)
      clear hv hl L0 Z0 RD
      obtain ⟨z0, z1, z2, z3, z4, z5⟩ := bx_of Z1.out
      have f0 := Z1.out.free 0
      have f1 := Z1.out.free 1
      have f2 := Z1.out.free 2
      have f3 := Z1.out.free 3
      have f4 := Z1.out.free 4
      have f5 := Z1.out.free 5
      by_cases hc : yc = 0
      · subst hc
        have HX2 := Lib.hid (HX.out.trans (if_neg (fun e => e rfl)))
        have RO := Lib.hid (fun W (hW : Below w.heap.size w W) => RecOk.impl yr W (HE.out.below hW) (HM.out rfl).mod)
        have HR := Lib.hid (HV.out rfl w1)
        clear HX HM HV
        obtain ⟨u, hu⟩ : ∃ u, rok yr = u := ⟨_, rfl⟩
        have HU := Lib.hid hu
        clear hu
        go_wp2_with fail
        refine HR.out.mono ?_
        rintro e w2 ⟨rfl, hl⟩
        have L2 := Lib.hid (L1.out.trans (hl.mono L1.out.size))
        have Z2 := Lib.hid (Z1.out.below hl Z1.out.lt)
        clear hl HR L1 Z1 z0 z1 z2 z3 z4 z5 f0 f1 f2 f3 f4 f5
        have L3 := Lib.hid (L2.out.alloc L2.out.size (.cells #[.string yr.name, .int .i64 yr.ty, .int .i64 yr.ttl, .int .i64 yr.n, .string yr.host, .string yr.text] 25))
        have Z3 := Lib.hid (Z2.out.alloc (.cells #[.string yr.name, .int .i64 yr.ty, .int .i64 yr.ttl, .int .i64 yr.n, .string yr.host, .string yr.text] 25))
        have X3 := Lib.hid (bx_new w2 25 yr)
        obtain ⟨z0, z1, z2, z3, z4, z5⟩ := bx_of Z3.out
        have f0 := Z3.out.free 0
        have f1 := Z3.out.free 1
        have f2 := Z3.out.free 2
        have f3 := Z3.out.free 3
        have f4 := Z3.out.free 4
        have f5 := Z3.out.free 5
        by_cases hq : yn = k + q
        · have hq2 : (yn != k + q) = false := by simp [hq]
          have HX4 : Hid (X = if rok yr = true then (0, yr) else (2, zr)) := by
            show _ = _
            rw [HX2.out, HU.out]
            cases u <;> simp [hq]
          clear hq HX2
          go_wp2_with fail
          refine (RO.out _ L3.out).mono ?_
          rw [HU.out]
          rintro e w4 ⟨rfl, hl⟩
          have L4 := Lib.hid (L3.out.trans (hl.mono L3.out.size))
          have Z4 := Lib.hid (Z3.out.below hl Z3.out.lt)
          have X4 := Lib.hid (X3.out.below hl)
          clear hl L3 Z3 X3 z0 z1 z2 z3 z4 z5 f0 f1 f2 f3 f4 f5
          obtain ⟨z0, z1, z2, z3, z4, z5⟩ := bx_of Z4.out
          have f0 := Z4.out.free 0
          have f1 := Z4.out.free 1
          have f2 := Z4.out.free 2
          have f3 := Z4.out.free 3
          have f4 := Z4.out.free 4
          have f5 := Z4.out.free 5
          rw [HU.out] at HX4
          cases u
          · go_wp2
            refine bodyPost_ret (v := val2 (2, zr)) (res2 rfl (fil_bk Z4.out zr) rfl rfl) rfl ⟨by rw [HX4.out]; rfl, fil_below L4.out (Nat.le_refl _) zr⟩
          · obtain ⟨x0, x1, x2, x3, x4, x5⟩ := X4.out
            go_wp2
            refine bodyPost_ret (v := val2 (0, yr)) (res2 rfl (fil_bk Z4.out yr) rfl rfl) rfl ⟨by rw [HX4.out]; rfl, fil_below L4.out (Nat.le_refl _) yr⟩
        · have hq2 : (yn != k + q) = true := by simpa using hq
          have HX4 : Hid (X = (2, zr)) := by
            show _ = _
            rw [HX2.out, if_neg (fun e => hq e.1)]
          clear hq HX2
          go_wp2
          refine bodyPost_ret (v := val2 (2, zr)) (res2 rfl (fil_bk Z3.out zr) rfl rfl) rfl ⟨by rw [HX4.out], fil_below L3.out (Nat.le_refl _) zr⟩
      · have HX2 := Lib.hid (HX.out.trans (if_pos hc))
        have hc2 : ((yc : Int) != 0) = true := by simp; omega
        clear HX
        go_wp2
        refine bodyPost_ret (v := val2 (yc, zr)) (res2 rfl (fil_bk Z1.out zr) rfl rfl) rfl ⟨by rw [HX2.out], fil_below L1.out (Nat.le_refl _) zr⟩
  · have HI : Hid (inn q 0 255 = false) := decide_eq_false h
    have HX : Hid (fx (gd l k q ty) = (2, zr)) := by show _ = _; rw [gd_n h]; exact fx_bad (by decide)
    generalize fx (gd l k q ty) = X at *
    clear hs hl he h
    go_enter Tryz.func15, Tryz.ntmps15
    go_wp2_with fail
    refine (upTo_any q 255 _).mono ?_
    rw [HI.out]
    rintro e w1 ⟨rfl, rfl⟩
    go_wp2
    refine bodyPost_ret (v := val2 (2, zr)) (res2 rfl (show Bk _ w.heap.size 25 (rc zr) from heap_alloc_new w _) rfl rfl) rfl ⟨by rw [HX.out], L0.out⟩
end Go.Proofs.YtcpadkehalgddaaGreatDoor.GetI
