/- The law FnExactPutRecord returns true at every slice of bytes and every record, where the library's variable internal/bytealg.MaxLen holds an int, and turns nothing that was there: PutRecord answers as its model. -/
import Derived.Test.YtcpadkehalgddaaDoorRecP
import Derived.Test.YtcpadkehalgddaaDoorSzR
import Derived.Test.YtcpadkehalgddaaDoorCopyR
import Derived.Test.YtcpadkehalgddaaDoorEq
namespace Go.Proofs.YtcpadkehalgddaaDoor.LawPutRecord
open Go.RowKit Go.Proofs.YtcpadkehalgddaaDoor.Mem Go.Proofs.YtcpadkehalgddaaDoor.MemR Go.Proofs.YtcpadkehalgddaaDoor.Labels Go.Proofs.YtcpadkehalgddaaDoor.RecOk Go.Proofs.YtcpadkehalgddaaDoor.SzR Go.Proofs.YtcpadkehalgddaaDoor.Copy Go.Proofs.YtcpadkehalgddaaDoor.CopyR Go.Proofs.YtcpadkehalgddaaDoor.BoxR Go.Proofs.YtcpadkehalgddaaDoor.Eq Go.Proofs.YtcpadkehalgddaaDoor.FieldMath Go.Proofs.YtcpadkehalgddaaDoor.App Go.Proofs.YtcpadkehalgddaaDoor.DataS Go.Proofs.YtcpadkehalgddaaDoor.RecS

set_option maxRecDepth 100000 in
set_option maxHeartbeats 4000000 in
theorem walk (A : Option Addr) (n c : Nat) (l : List UInt8) (a : Rec) (w : World) (he : Env w) (hs : Sl w w.heap.size A n l) (_hc : n ≤ c) (_hnil : A = none → n = 0 ∧ c = 0) (hz : a.name.size ≤ 9223372036854775807 ∧ a.host.size ≤ 9223372036854775807 ∧ a.text.size ≤ 9223372036854775807) :
    Calls Tryd.prog 6 #[.slice A n c, .agg #[.string a.name, .int .i64 a.ty, .int .i64 a.ttl, .int .i64 a.n, .string a.host, .string a.text]] w fun e w' => e = .returned (.bool true) ∧ Below w.heap.size w w' := by
  have HE := Lib.hid he
  have HS := Lib.hid hs
  have HL := Lib.hid hs.1
  have Z0 := Lib.hid hz
  clear he hz hs _hnil
  have B0 := Lib.hid ((Below.refl w.heap.size w).alloc (Nat.le_refl _) (.cells #[.string a.name, .int .i64 a.ty, .int .i64 a.ttl, .int .i64 a.n, .string a.host, .string a.text] 38))
  have X0 := Lib.hid (bx_new w 38 a)
  by_cases hbig : 1048576 < n
  · have hb' : (1048576 : Int) < (n : Int) := by omega
    go_enter Tryd.func6, Tryd.ntmps6
    go_wp2
    go_ret
    exact ⟨rfl, B0.out⟩
  have hb' : ¬ (1048576 : Int) < (n : Int) := by omega
  go_enter Tryd.func6, Tryd.ntmps6
  go_wp2_with fail
  refine (szRecord_any a 1048576 _ (by omega) (by omega) Z0.out).mono ?_
  rintro e w1 ⟨y, rfl, hy0, hy1, hy, hl⟩
  have YY := Lib.hid hy
  have L1 := Lib.hid (B0.out.trans (hl.mono B0.out.size))
  have X1 := Lib.hid (X0.out.below hl)
  clear hy hl X0 B0
  by_cases hneg : y < 0
  · go_wp2
    go_ret
    exact ⟨rfl, L1.out⟩
  have FA := Lib.hid (show Med a by
    have h := YY.out (by omega)
    unfold rz at h
    exact ⟨by omega, by omega, by omega⟩)
  clear YY
  have HLL : Hid ((l ++ tailR l a).length ≤ n + 173) := by
    show _ ≤ _
    rw [List.length_append, HL.out]
    have := tailR_len l a
    omega
  have TB : Hid (∀ W : World, ((W.cell? ⟨w.heap.size, 0, none⟩ = some (.string a.name) ∧ W.cell? ⟨w.heap.size, 1, none⟩ = some (.int .i64 a.ty) ∧ W.cell? ⟨w.heap.size, 2, none⟩ = some (.int .i64 a.ttl) ∧ W.cell? ⟨w.heap.size, 3, none⟩ = some (.int .i64 a.n) ∧ W.cell? ⟨w.heap.size, 4, none⟩ = some (.string a.host) ∧ W.cell? ⟨w.heap.size, 5, none⟩ = some (.string a.text)) ∧ Sv w W) → Calls Tryd.prog 32 #[.slice A n c] W fun e w' => ∃ g, e = .returned (.slice (some ⟨g, 0, none⟩) n n) ∧ Bk w' g 5 (l.map bv) ∧ W.heap.size ≤ g ∧ Below W.heap.size W w') :=
    fun W hW => (toByteS_any A n c l W ((HS.out.below hW.2).wider hW.2.size) (by omega)).mono fun e w' ⟨h1, h2, h3⟩ => ⟨_, h1, h2, Nat.le_refl _, h3⟩
  have SP : Hid (∀ (g : Nat) (W : World), Bk W g 5 (l.map bv) → Calls Tryd.prog 35 #[.slice (some ⟨g, 0, none⟩) n n, .agg #[.string a.name, .int .i64 a.ty, .int .i64 a.ttl, .int .i64 a.n, .string a.host, .string a.text]] W (Gives W (l ++ tailR l a))) :=
    fun g W hb => (RecS.spec _ n n l a W (HL.out ▸ (hb.sl.wider hb.lt)) (Nat.le_refl _) (fun h => by cases h) (by omega) FA.out).mono fun _ _ h => h.gives
  have IM : Hid (∀ (g : Nat) (W : World), ((W.cell? ⟨w.heap.size, 0, none⟩ = some (.string a.name) ∧ W.cell? ⟨w.heap.size, 1, none⟩ = some (.int .i64 a.ty) ∧ W.cell? ⟨w.heap.size, 2, none⟩ = some (.int .i64 a.ttl) ∧ W.cell? ⟨w.heap.size, 3, none⟩ = some (.int .i64 a.n) ∧ W.cell? ⟨w.heap.size, 4, none⟩ = some (.string a.host) ∧ W.cell? ⟨w.heap.size, 5, none⟩ = some (.string a.text)) ∧ Sv w W) → Bk W g 5 (l.map bv) → Calls Tryd.prog 36 #[.slice (some ⟨g, 0, none⟩) n n, .agg #[.string a.name, .int .i64 a.ty, .int .i64 a.ttl, .int .i64 a.n, .string a.host, .string a.text]] W (Gives W (l ++ tailR l a))) :=
    fun g W hW hb => (RecP.impl _ n n l a W (HE.out.below hW.2) (HL.out ▸ (hb.sl.wider hb.lt)) (Nat.le_refl _) (fun h => by cases h) (by omega) FA.out).mono fun _ _ h => h.gives
  generalize l ++ tailR l a = L at *
  have S0 : ((w1.cell? ⟨w.heap.size, 0, none⟩ = some (.string a.name) ∧ w1.cell? ⟨w.heap.size, 1, none⟩ = some (.int .i64 a.ty) ∧ w1.cell? ⟨w.heap.size, 2, none⟩ = some (.int .i64 a.ttl) ∧ w1.cell? ⟨w.heap.size, 3, none⟩ = some (.int .i64 a.n) ∧ w1.cell? ⟨w.heap.size, 4, none⟩ = some (.string a.host) ∧ w1.cell? ⟨w.heap.size, 5, none⟩ = some (.string a.text)) ∧ Sv w w1) := ⟨X1.out, L1.out⟩
  go_wp2
  go_region_held3 (fun w' => ((w'.cell? ⟨w.heap.size, 0, none⟩ = some (.string a.name) ∧ w'.cell? ⟨w.heap.size, 1, none⟩ = some (.int .i64 a.ty) ∧ w'.cell? ⟨w.heap.size, 2, none⟩ = some (.int .i64 a.ttl) ∧ w'.cell? ⟨w.heap.size, 3, none⟩ = some (.int .i64 a.n) ∧ w'.cell? ⟨w.heap.size, 4, none⟩ = some (.string a.host) ∧ w'.cell? ⟨w.heap.size, 5, none⟩ = some (.string a.text)) ∧ Sv w w'))
    (first | exact S0 | assumption | exact kept6 (by assumption) hl | exact kept6_draw (by assumption) | fail)
    (first
      | (go_at_call 32; refine (TB.out _ (by assumption)).mono ?_; rintro e w11 ⟨g1, rfl, hb1, hg1, hl⟩)
      | (go_at_call 26; refine (toRecord_any a _).mono ?_; rintro e w12 ⟨rfl, hl⟩; have hb2 := hb1.below hl hb1.lt)
      | (go_at_call 35; refine (SP.out _ _ hb2).mono ?_; rintro e w2 ⟨gw, mw, cw, rw, rfl, hm, hc, hg, hb, hl⟩)
      | fail)
  rename_i hH
  have hmw : mw ≤ 1048749 := by have := HLL.out; omega
  have MW := Lib.hid hm
  have W2 := Lib.hid hb
  have X2 : Hid (Bx w2 w.heap.size a) := hH.1
  have L2 : Hid (Below w.heap.size w w2) := hH.2
  clear hm hc hg hb hl hH hb1 hb2 hg1 S0 X1 L1
  go_wp2_with fail
  refine (TB.out w2 ⟨X2.out, L2.out⟩).mono ?_
  rintro e w3 ⟨gx, rfl, b3, hgx, l3⟩
  have X3 := Lib.hid b3
  have W3 := Lib.hid (W2.out.below l3 W2.out.lt)
  have R3 := Lib.hid (X2.out.below l3)
  have GX := Lib.hid (show gw ≠ gx from fun e => by have := W2.out.lt; omega)
  have GR := Lib.hid (show w.heap.size ≠ gx from fun e => by have := X2.out.lt; omega)
  have GX2 := Lib.hid (Nat.le_trans L2.out.size hgx)
  have L3 := Lib.hid (L2.out.trans (l3.mono L2.out.size))
  clear b3 l3 hgx L2 W2 X2
  obtain ⟨x0, x1, x2, x3, x4, x5⟩ := R3.out
  go_wp2_with fail
  refine (toRecord_any a w3).mono ?_
  rintro e w4 ⟨rfl, hl⟩
  have X4 := Lib.hid (X3.out.below hl X3.out.lt)
  have W4 := Lib.hid (W3.out.below hl W3.out.lt)
  have R4 := Lib.hid (R3.out.below hl)
  have L4 := Lib.hid (L3.out.trans (hl.mono L3.out.size))
  clear hl x0 x1 x2 x3 x4 x5 X3 W3 R3 L3
  go_wp2_with fail
  refine (IM.out _ w4 ⟨R4.out, L4.out⟩ X4.out).mono ?_
  rintro e w5 ⟨gg, mg, cg, rg, rfl, hm, hcg, hg, hb, hl⟩
  have hmg : mg ≤ 1048749 := by have := HLL.out; omega
  have MG := Lib.hid hm
  have G5 := Lib.hid hb
  have X5 := Lib.hid (X4.out.below hl X4.out.lt)
  have W5 := Lib.hid (W4.out.below hl W4.out.lt)
  have R5 := Lib.hid (R4.out.below hl)
  have NX := Lib.hid (show gx ≠ gg from fun e => by have := X4.out.lt; omega)
  have NW := Lib.hid (show gw ≠ gg from fun e => by have := W4.out.lt; omega)
  have NR := Lib.hid (show w.heap.size ≠ gg from fun e => by have := R4.out.lt; omega)
  have GG := Lib.hid (Nat.le_trans L4.out.size hg)
  have L5 := Lib.hid (L4.out.trans (hl.mono L4.out.size))
  clear hm hg hb hl L4 X4 W4 R4
  go_wp2_with fail
  refine (eqByteS_same _ _ mg cg mw cw L w5 (MG.out ▸ (G5.out.sl'.wider G5.out.lt)) (MW.out ▸ (W5.out.sl'.wider W5.out.lt)) (by omega) (by omega)).mono ?_
  rintro e w6 ⟨rfl, hl⟩
  have G6 := Lib.hid (G5.out.below hl G5.out.lt)
  have X6 := Lib.hid (X5.out.below hl X5.out.lt)
  have W6 := Lib.hid (W5.out.below hl W5.out.lt)
  have R6 := Lib.hid (R5.out.below hl)
  have L6 := Lib.hid (L5.out.trans (hl.mono L5.out.size))
  clear hl G5 X5 W5 R5 L5 
  go_wp2_with fail
  refine (TB.out w6 ⟨R6.out, L6.out⟩).mono ?_
  rintro e w7 ⟨gt, rfl, hb, hgt, hl⟩
  have T7 := Lib.hid hb
  have G7 := Lib.hid (G6.out.below hl G6.out.lt)
  have X7 := Lib.hid (X6.out.below hl X6.out.lt)
  have W7 := Lib.hid (W6.out.below hl W6.out.lt)
  have R7 := Lib.hid (R6.out.below hl)
  have L7 := Lib.hid (L6.out.trans (hl.mono L6.out.size))
  clear hl G6 X6 W6 R6 L6 hb hgt
  go_wp2_with fail
  refine (eqByteS_same _ _ n n n n l w7 (HL.out ▸ (X7.out.sl.wider X7.out.lt)) (HL.out ▸ (T7.out.sl.wider T7.out.lt)) (by omega) (by omega)).mono ?_
  rintro e w8 ⟨rfl, hl⟩
  have G8 := Lib.hid (G7.out.below hl G7.out.lt)
  have X8 := Lib.hid (X7.out.below hl X7.out.lt)
  have W8 := Lib.hid (W7.out.below hl W7.out.lt)
  have R8 := Lib.hid (R7.out.below hl)
  have L8 := Lib.hid (L7.out.trans (hl.mono L7.out.size))
  clear hl G7 X7 W7 R7 L7 T7 
  go_wp2_with fail
  refine (markByteS_one gx n n l [] w8 (by rw [List.append_nil]; exact X8.out) HL.out (by omega)).mono ?_
  rintro e w9 ⟨rfl, _, g9⟩
  have G9 := Lib.hid (G8.out.grown g9 (fun e => NX.out (Option.some.inj e).symm))
  have W9 := Lib.hid (W8.out.grown g9 (fun e => GX.out (Option.some.inj e)))
  have R9 := Lib.hid (R8.out.grown g9 (fun e => GR.out (Option.some.inj e)))
  have L9 := Lib.hid (L8.out.grown g9 L8.out.size (fun j hj => by cases hj; exact GX2.out))
  clear g9 L8 G8 X8 W8 R8
  go_wp2_with fail
  refine (eqByteS_same _ _ mg cg mw cw L w9 (MG.out ▸ (G9.out.sl'.wider G9.out.lt)) (MW.out ▸ (W9.out.sl'.wider W9.out.lt)) (by omega) (by omega)).mono ?_
  rintro e w10 ⟨rfl, hl⟩
  have G10 := Lib.hid (G9.out.below hl G9.out.lt)
  have W10 := Lib.hid (W9.out.below hl W9.out.lt)
  have R10 := Lib.hid (R9.out.below hl)
  have L10 := Lib.hid (L9.out.trans (hl.mono L9.out.size))
  clear hl G9 W9 R9 L9 
  go_wp2_with fail
  refine (markByteS_one gg mg cg L rg w10 G10.out MG.out (by omega)).mono ?_
  rintro e w11 ⟨rfl, m11, g11⟩
  have M11 := Lib.hid m11
  have W11 := Lib.hid (W10.out.grown g11 (fun e => NW.out (Option.some.inj e)))
  have R11 := Lib.hid (R10.out.grown g11 (fun e => NR.out (Option.some.inj e)))
  have L11 := Lib.hid (L10.out.grown g11 L10.out.size (fun j hj => by cases hj; exact GG.out))
  clear m11 g11 L10 G10 W10 R10
  go_wp2_with fail
  refine (heldByteS_one gg mg cg rg w11 M11.out (by omega)).mono ?_
  rintro e w12 ⟨rfl, rfl⟩
  have TB2 : Hid (∀ W : World, ((W.cell? ⟨w.heap.size, 0, none⟩ = some (.string a.name) ∧ W.cell? ⟨w.heap.size, 1, none⟩ = some (.int .i64 a.ty) ∧ W.cell? ⟨w.heap.size, 2, none⟩ = some (.int .i64 a.ttl) ∧ W.cell? ⟨w.heap.size, 3, none⟩ = some (.int .i64 a.n) ∧ W.cell? ⟨w.heap.size, 4, none⟩ = some (.string a.host) ∧ W.cell? ⟨w.heap.size, 5, none⟩ = some (.string a.text)) ∧ Sv w11 W) → Calls Tryd.prog 32 #[.slice A n c] W fun e w' => ∃ g, e = .returned (.slice (some ⟨g, 0, none⟩) n n) ∧ Bk w' g 5 (l.map bv) ∧ W.heap.size ≤ g ∧ Below W.heap.size W w') :=
    fun W hW => TB.out W ⟨hW.1, L11.out.trans (hW.2.mono L11.out.size)⟩
  have IM2 : Hid (∀ (g : Nat) (W : World), ((W.cell? ⟨w.heap.size, 0, none⟩ = some (.string a.name) ∧ W.cell? ⟨w.heap.size, 1, none⟩ = some (.int .i64 a.ty) ∧ W.cell? ⟨w.heap.size, 2, none⟩ = some (.int .i64 a.ttl) ∧ W.cell? ⟨w.heap.size, 3, none⟩ = some (.int .i64 a.n) ∧ W.cell? ⟨w.heap.size, 4, none⟩ = some (.string a.host) ∧ W.cell? ⟨w.heap.size, 5, none⟩ = some (.string a.text)) ∧ Sv w11 W) → Bk W g 5 (l.map bv) → Calls Tryd.prog 36 #[.slice (some ⟨g, 0, none⟩) n n, .agg #[.string a.name, .int .i64 a.ty, .int .i64 a.ttl, .int .i64 a.n, .string a.host, .string a.text]] W (Gives W L)) :=
    fun g W hW hb => IM.out g W ⟨hW.1, L11.out.trans (hW.2.mono L11.out.size)⟩ hb
  have S0 : ((w11.cell? ⟨w.heap.size, 0, none⟩ = some (.string a.name) ∧ w11.cell? ⟨w.heap.size, 1, none⟩ = some (.int .i64 a.ty) ∧ w11.cell? ⟨w.heap.size, 2, none⟩ = some (.int .i64 a.ttl) ∧ w11.cell? ⟨w.heap.size, 3, none⟩ = some (.int .i64 a.n) ∧ w11.cell? ⟨w.heap.size, 4, none⟩ = some (.string a.host) ∧ w11.cell? ⟨w.heap.size, 5, none⟩ = some (.string a.text)) ∧ Sv w11 w11) := ⟨R11.out, Below.refl _ _⟩
  go_wp2
  go_region_held3 (fun w' => ((w'.cell? ⟨w.heap.size, 0, none⟩ = some (.string a.name) ∧ w'.cell? ⟨w.heap.size, 1, none⟩ = some (.int .i64 a.ty) ∧ w'.cell? ⟨w.heap.size, 2, none⟩ = some (.int .i64 a.ttl) ∧ w'.cell? ⟨w.heap.size, 3, none⟩ = some (.int .i64 a.n) ∧ w'.cell? ⟨w.heap.size, 4, none⟩ = some (.string a.host) ∧ w'.cell? ⟨w.heap.size, 5, none⟩ = some (.string a.text)) ∧ Sv w11 w'))
    (first | exact S0 | assumption | exact kept6 (by assumption) hl | exact kept6_draw (by assumption) | fail)
    (first
      | (go_at_call 32; refine (TB2.out _ (by assumption)).mono ?_; rintro e w21 ⟨g1, rfl, hb1, hg1, hl⟩)
      | (go_at_call 26; refine (toRecord_any a _).mono ?_; rintro e w22 ⟨rfl, hl⟩; have hb2 := hb1.below hl hb1.lt)
      | (go_at_call 36; refine (IM2.out _ _ (by assumption) hb2).mono ?_; rintro e w12 ⟨gh, mh, ch, rh, rfl, hm, hc, hg, hb, hl⟩)
      | fail)
  rename_i hH
  have hmh : mh ≤ 1048749 := by have := HLL.out; omega
  have MH := Lib.hid hm
  have H12 := Lib.hid hb
  have M12 := Lib.hid (M11.out.below hH.2 M11.out.lt)
  have W12 := Lib.hid (W11.out.below hH.2 W11.out.lt)
  have L12 := Lib.hid (L11.out.trans (hH.2.mono L11.out.size))
  clear hm hc hg hb hl hH hb1 hb2 hg1 S0 M11 W11 L11 R11 TB2 IM2
  go_wp2_with fail
  refine (eqByteS_same _ _ mh ch mw cw L w12 (MH.out ▸ (H12.out.sl'.wider H12.out.lt)) (MW.out ▸ (W12.out.sl'.wider W12.out.lt)) (by omega) (by omega)).mono ?_
  rintro e w13 ⟨rfl, hl⟩
  have M13 := Lib.hid (M12.out.below hl M12.out.lt)
  have L13 := Lib.hid (L12.out.trans (hl.mono L12.out.size))
  clear hl L12 M12 W12 H12
  go_wp2_with fail
  refine (heldByteS_one gg mg cg rg w13 M13.out (by omega)).mono ?_
  rintro e w14 ⟨rfl, rfl⟩
  go_wp2
  go_ret
  exact ⟨rfl, L13.out⟩
end Go.Proofs.YtcpadkehalgddaaDoor.LawPutRecord
