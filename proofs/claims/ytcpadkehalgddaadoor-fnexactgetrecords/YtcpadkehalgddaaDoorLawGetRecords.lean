/- The law FnExactGetRecords returns true at every slice of bytes, offset and number, where the library's variable internal/bytealg.MaxLen holds an int, and turns nothing that was there: GetRecords answers as its model. -/
import Derived.Test.YtcpadkehalgddaaDoorGetsS
import Derived.Test.YtcpadkehalgddaaDoorGetsI
import Derived.Test.YtcpadkehalgddaaDoorCopy
import Derived.Test.YtcpadkehalgddaaDoorEq
import Derived.Test.YtcpadkehalgddaaDoorEqR
import Derived.Test.YtcpadkehalgddaaDoorMarkR
namespace Go.Proofs.YtcpadkehalgddaaDoor.LawGetRecords
open Go.RowKit Go.Proofs.YtcpadkehalgddaaDoor.Mem Go.Proofs.YtcpadkehalgddaaDoor.MemR Go.Proofs.YtcpadkehalgddaaDoor.Labels Go.Proofs.YtcpadkehalgddaaDoor.Copy Go.Proofs.YtcpadkehalgddaaDoor.Eq Go.Proofs.YtcpadkehalgddaaDoor.EqR Go.Proofs.YtcpadkehalgddaaDoor.MarkR Go.Proofs.YtcpadkehalgddaaDoor.FieldMath Go.Proofs.YtcpadkehalgddaaDoor.GetsM

set_option maxRecDepth 100000 in
set_option maxHeartbeats 8000000 in
theorem walk (A : Option Addr) (n c : Nat) (l : List UInt8) (k q : Int) (w : World) (he : Env w) (hs : Sl w w.heap.size A n l) (_hc : n ≤ c) (_hnil : A = none → n = 0 ∧ c = 0) :
    Calls Tryd.prog 8 #[.slice A n c, .int .i64 k, .int .i64 q] w fun e w' => e = .returned (.bool true) ∧ Below w.heap.size w w' := by
  have HE := Lib.hid he
  have HS := Lib.hid hs
  have HL := Lib.hid hs.1
  clear he hs _hnil
  by_cases hbig : 1048576 < n
  · have hb' : (1048576 : Int) < (n : Int) := by omega
    go_enter Tryd.func8, Tryd.ntmps8
    go_wp2
    go_ret
    exact ⟨rfl, Below.refl _ _⟩
  have hb' : ¬ (1048576 : Int) < (n : Int) := by omega
  have SP : Hid (∀ (g : Nat) (W : World), Bk W g 5 (l.map bv) → Calls Tryd.prog 39 #[.slice (some ⟨g, 0, none⟩) n n, .int .i64 k, .int .i64 q] W fun e w' => ∃ g cap r, e = .returned (.tuple #[.slice (some ⟨g, 0, none⟩) (grA l k q).2.2.length cap, .int .i64 (grA l k q).2.1, .int .i64 ((grA l k q).1 : Int)]) ∧ Bk w' g 25 (fl (grA l k q).2.2 ++ r) ∧ W.heap.size ≤ g ∧ Below W.heap.size W w') :=
    fun g W hb => (GetsS.recs _ n n l k q W (HL.out ▸ (hb.sl.wider hb.lt)) (Nat.le_refl _) (by omega)).mono fun _ _ h => h.bk
  have IM : Hid (∀ (g : Nat) (W : World), Below w.heap.size w W → Bk W g 5 (l.map bv) → Calls Tryd.prog 40 #[.slice (some ⟨g, 0, none⟩) n n, .int .i64 k, .int .i64 q] W fun e w' => ∃ g cap r, e = .returned (.tuple #[.slice (some ⟨g, 0, none⟩) (grA l k q).2.2.length cap, .int .i64 (grA l k q).2.1, .int .i64 ((grA l k q).1 : Int)]) ∧ Bk w' g 25 (fl (grA l k q).2.2 ++ r) ∧ W.heap.size ≤ g ∧ Below W.heap.size W w') :=
    fun g W hW hb => (GetsI.recs _ n n l k q W (HE.out.below hW) (HL.out ▸ (hb.sl.wider hb.lt)) (Nat.le_refl _) (by omega)).mono fun _ _ h => h.bk
  have TB : Hid (∀ W : World, Below w.heap.size w W → Calls Tryd.prog 32 #[.slice A n c] W fun e w' => ∃ g, e = .returned (.slice (some ⟨g, 0, none⟩) n n) ∧ Bk w' g 5 (l.map bv) ∧ W.heap.size ≤ g ∧ Below W.heap.size W w') :=
    fun W hW => (toByteS_any A n c l W ((HS.out.below hW).wider hW.size) (by omega)).mono fun e w' ⟨h1, h2, h3⟩ => ⟨_, h1, h2, Nat.le_refl _, h3⟩
  have hm8 := grA_len l k q
  generalize grA l k q = X at *
  obtain ⟨yc, yp, L⟩ := X
  dsimp only at SP IM hm8
  obtain ⟨m, hm⟩ : ∃ m, L.length = m := ⟨_, rfl⟩
  rw [hm] at SP IM hm8
  have HN := Lib.hid hm
  clear hm
  have hp : (yp != yp) = false := by simp
  have hq : ((yc : Int) != (yc : Int)) = false := by simp
  have hk0 : ¬ (1 : Int) + 6 * (m : Int) < 0 := by omega
  have q1 : ((1 : Int) + 6 * (m : Int) != 1 + 6 * (m : Int)) = false := by simp
  have L0 := Lib.hid (Below.refl w.heap.size w)
  go_enter Tryd.func8, Tryd.ntmps8
  go_wp2_with fail
  refine (TB.out w L0.out).mono ?_
  rintro e w1 ⟨gb, rfl, hb, hg, hl⟩
  have B1 := Lib.hid hb
  have L1 := Lib.hid (L0.out.trans (hl.mono L0.out.size))
  clear hl L0 hb hg
  go_wp2_with fail
  refine (SP.out _ w1 B1.out).mono ?_
  rintro e w2 ⟨gw, cw, rw, rfl, hb, hg, hl⟩
  have W2 := Lib.hid hb
  have L2 := Lib.hid (L1.out.trans (hl.mono L1.out.size))
  clear hl L1 B1 hg hb
  go_wp2_with fail
  refine (TB.out w2 L2.out).mono ?_
  rintro e w3 ⟨gx, rfl, hb, hg, hl⟩
  have X3 := Lib.hid hb
  have NWX := Lib.hid (show gw ≠ gx from fun e => by have := W2.out.lt; omega)
  have GX := Lib.hid (Nat.le_trans L2.out.size hg)
  have L3 := Lib.hid (L2.out.trans (hl.mono L2.out.size))
  have W3 := Lib.hid (W2.out.below hl W2.out.lt)
  clear hl L2 W2 hb hg
  go_wp2_with fail
  refine (IM.out _ w3 L3.out X3.out).mono ?_
  rintro e w4 ⟨gg, cg, rg, rfl, hb, hg, hl⟩
  have G4 := Lib.hid hb
  have NWG := Lib.hid (show gw ≠ gg from fun e => by have := W3.out.lt; omega)
  have NXG := Lib.hid (show gx ≠ gg from fun e => by have := X3.out.lt; omega)
  have GG := Lib.hid (Nat.le_trans L3.out.size hg)
  have L4 := Lib.hid (L3.out.trans (hl.mono L3.out.size))
  have W4 := Lib.hid (W3.out.below hl W3.out.lt)
  have X4 := Lib.hid (X3.out.below hl X3.out.lt)
  clear hl L3 W3 X3 hg hb
  go_wp2_with fail
  refine (eqRecordS_same _ _ m cg cw L w4 (bk_sr G4.out HN.out) (bk_sr W4.out HN.out) (by omega)).mono ?_
  rintro e w5 ⟨rfl, hl⟩
  have L5 := Lib.hid (L4.out.trans (hl.mono L4.out.size))
  have W5 := Lib.hid (W4.out.below hl W4.out.lt)
  have X5 := Lib.hid (X4.out.below hl X4.out.lt)
  have G5 := Lib.hid (G4.out.below hl G4.out.lt)
  clear hl L4 W4 X4 G4 
  go_wp2_with fail
  refine (TB.out w5 L5.out).mono ?_
  rintro e w6 ⟨gt, rfl, hb, hg, hl⟩
  have T6 := Lib.hid hb
  have L6 := Lib.hid (L5.out.trans (hl.mono L5.out.size))
  have W6 := Lib.hid (W5.out.below hl W5.out.lt)
  have X6 := Lib.hid (X5.out.below hl X5.out.lt)
  have G6 := Lib.hid (G5.out.below hl G5.out.lt)
  clear hl L5 W5 X5 G5 hb hg
  go_wp2_with fail
  refine (eqByteS_same _ _ n n n n l w6 (HL.out ▸ (X6.out.sl.wider X6.out.lt)) (HL.out ▸ (T6.out.sl.wider T6.out.lt)) (by omega) (by omega)).mono ?_
  rintro e w7 ⟨rfl, hl⟩
  have L7 := Lib.hid (L6.out.trans (hl.mono L6.out.size))
  have W7 := Lib.hid (W6.out.below hl W6.out.lt)
  have X7 := Lib.hid (X6.out.below hl X6.out.lt)
  have G7 := Lib.hid (G6.out.below hl G6.out.lt)
  clear hl L6 W6 X6 G6 T6 
  go_wp2_with fail
  refine (markByteS_one gx n n l [] w7 (by rw [List.append_nil]; exact X7.out) HL.out (by omega)).mono ?_
  rintro e w8 ⟨rfl, _, gr⟩
  have L8 := Lib.hid (L7.out.grown gr L7.out.size (fun j hj => by cases hj; exact GX.out))
  have W8 := Lib.hid (W7.out.grown gr (fun e => NWX.out (Option.some.inj e)))
  have G8 := Lib.hid (G7.out.grown gr (fun e => NXG.out (Option.some.inj e).symm))
  clear gr L7 W7 X7 G7 
  go_wp2_with fail
  refine (eqRecordS_same _ _ m cg cw L w8 (bk_sr G8.out HN.out) (bk_sr W8.out HN.out) (by omega)).mono ?_
  rintro e w9 ⟨rfl, hl⟩
  have L9 := Lib.hid (L8.out.trans (hl.mono L8.out.size))
  have W9 := Lib.hid (W8.out.below hl W8.out.lt)
  have G9 := Lib.hid (G8.out.below hl G8.out.lt)
  clear hl L8 W8 G8 
  go_wp2_with fail
  refine (markRecordS_one gg m cg L rg w9 G9.out HN.out (by omega)).mono ?_
  rintro e w10 ⟨rfl, mm, gr⟩
  have M10 := Lib.hid mm
  have L10 := Lib.hid (L9.out.grown gr L9.out.size (fun j hj => by cases hj; exact GG.out))
  have W10 := Lib.hid (W9.out.grown gr (fun e => NWG.out (Option.some.inj e)))
  clear gr L9 W9 G9 mm
  go_wp2_with fail
  refine (heldRecordS_one gg m cg rg w10 M10.out (by omega)).mono ?_
  rintro e w11 ⟨rfl, hl⟩
  have L11 := Lib.hid (L10.out.trans (hl.mono L10.out.size))
  have W11 := Lib.hid (W10.out.below hl W10.out.lt)
  have M11 := Lib.hid (M10.out.below hl M10.out.lt)
  clear hl L10 W10 M10 
  go_wp2_with fail
  refine (TB.out w11 L11.out).mono ?_
  rintro e w12 ⟨gp, rfl, hb, hg, hl⟩
  have P12 := Lib.hid hb
  have L12 := Lib.hid (L11.out.trans (hl.mono L11.out.size))
  have W12 := Lib.hid (W11.out.below hl W11.out.lt)
  have M12 := Lib.hid (M11.out.below hl M11.out.lt)
  clear hl L11 W11 M11 hb hg
  go_wp2_with fail
  refine (IM.out _ w12 L12.out P12.out).mono ?_
  rintro e w13 ⟨gh, ch, rh, rfl, hb, hg, hl⟩
  have H13 := Lib.hid hb
  have L13 := Lib.hid (L12.out.trans (hl.mono L12.out.size))
  have W13 := Lib.hid (W12.out.below hl W12.out.lt)
  have M13 := Lib.hid (M12.out.below hl M12.out.lt)
  clear hl L12 W12 M12 P12 hg hb
  go_wp2_with fail
  refine (eqRecordS_same _ _ m ch cw L w13 (bk_sr H13.out HN.out) (bk_sr W13.out HN.out) (by omega)).mono ?_
  rintro e w14 ⟨rfl, hl⟩
  have L14 := Lib.hid (L13.out.trans (hl.mono L13.out.size))
  have M14 := Lib.hid (M13.out.below hl M13.out.lt)
  clear hl L13 W13 M13 H13 
  go_wp2_with fail
  refine (heldRecordS_one gg m cg rg w14 M14.out (by omega)).mono ?_
  rintro e w15 ⟨rfl, hl⟩
  have L15 := Lib.hid (L14.out.trans (hl.mono L14.out.size))
  clear hl L14 M14 
  go_wp2
  go_ret
  exact ⟨rfl, L15.out⟩
end Go.Proofs.YtcpadkehalgddaaDoor.LawGetRecords
