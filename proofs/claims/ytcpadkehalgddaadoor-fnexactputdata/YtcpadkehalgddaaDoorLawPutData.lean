/- The law FnExactPutData returns true at every record, where the library's variable internal/bytealg.MaxLen holds an int, and turns nothing that was there: PutData answers as its model. -/
import Derived.Test.YtcpadkehalgddaaDoorDataP
import Derived.Test.YtcpadkehalgddaaDoorSzR
import Derived.Test.YtcpadkehalgddaaDoorCopyR
import Derived.Test.YtcpadkehalgddaaDoorEq
namespace Go.Proofs.YtcpadkehalgddaaDoor.LawPutData
open Go.RowKit Go.Proofs.YtcpadkehalgddaaDoor.Mem Go.Proofs.YtcpadkehalgddaaDoor.MemR Go.Proofs.YtcpadkehalgddaaDoor.Labels Go.Proofs.YtcpadkehalgddaaDoor.RecOk Go.Proofs.YtcpadkehalgddaaDoor.SzR Go.Proofs.YtcpadkehalgddaaDoor.CopyR Go.Proofs.YtcpadkehalgddaaDoor.BoxR Go.Proofs.YtcpadkehalgddaaDoor.Eq Go.Proofs.YtcpadkehalgddaaDoor.FieldMath Go.Proofs.YtcpadkehalgddaaDoor.DataS

set_option maxHeartbeats 4000000 in
theorem walk (a : Rec) (w : World) (he : Env w) (hz : a.name.size ≤ 9223372036854775807 ∧ a.host.size ≤ 9223372036854775807 ∧ a.text.size ≤ 9223372036854775807) :
    Calls Tryd.prog 4 #[.agg #[.string a.name, .int .i64 a.ty, .int .i64 a.ttl, .int .i64 a.n, .string a.host, .string a.text]] w fun e w' => e = .returned (.bool true) ∧ Below w.heap.size w w' := by
  have HE := Lib.hid he
  have Z0 := Lib.hid hz
  clear he hz
  have B0 := Lib.hid ((Below.refl w.heap.size w).alloc (Nat.le_refl _) (.cells #[.string a.name, .int .i64 a.ty, .int .i64 a.ttl, .int .i64 a.n, .string a.host, .string a.text] 38))
  have X0 := Lib.hid (bx_new w 38 a)
  go_enter Tryd.func4, Tryd.ntmps4
  go_wp2_with fail
  refine (szRecord_any a 1048576 _ (by omega) (by omega) Z0.out).mono ?_
  rintro e w1 ⟨y, rfl, hy0, hy1, hy, hl⟩
  have YY := Lib.hid hy
  have L1 := Lib.hid (B0.out.trans (hl.mono B0.out.size))
  have X1 := Lib.hid (X0.out.below hl)
  clear hy hl X0 B0
  by_cases hneg : y < 0
  · go_wp2
    go_ret
    exact ⟨rfl, L1.out⟩
  have FA := Lib.hid (show Med a by
    have h := YY.out (by omega)
    unfold rz at h
    exact ⟨by omega, by omega, by omega⟩)
  clear YY
  have HLL := Lib.hid (dat_len a)
  have SP := Lib.hid (fun w => DataS.spec a w FA.out)
  have IM := Lib.hid (fun w he => DataP.impl a w he FA.out)
  generalize dat a = L at *
  obtain ⟨x0, x1, x2, x3, x4, x5⟩ := X1.out
  go_wp2_with fail
  refine (toRecord_any a w1).mono ?_
  rintro e w2 ⟨rfl, hl⟩
  have L2 := Lib.hid (L1.out.trans (hl.mono L1.out.size))
  have X2 := Lib.hid (X1.out.below hl)
  clear hl X1 L1 x0 x1 x2 x3 x4 x5
  go_wp2_with fail
  refine (SP.out w2).mono ?_
  rintro e w3 ⟨gw, mw, cw, rw, rfl, hm, hcw, hg, hb, hl⟩
  have hmw : mw ≤ 83 := by have := HLL.out; omega
  have MW := Lib.hid hm
  have W3 := Lib.hid hb
  have L3 := Lib.hid (L2.out.trans (hl.mono L2.out.size))
  have X3 := Lib.hid (X2.out.below hl)
  clear hm hg hb hl X2 L2
  obtain ⟨x0, x1, x2, x3, x4, x5⟩ := X3.out
  go_wp2_with fail
  refine (toRecord_any a w3).mono ?_
  rintro e w4 ⟨rfl, hl⟩
  have L4 := Lib.hid (L3.out.trans (hl.mono L3.out.size))
  have X4 := Lib.hid (X3.out.below hl)
  have W4 := Lib.hid (W3.out.below hl W3.out.lt)
  clear hl X3 L3 W3 x0 x1 x2 x3 x4 x5
  go_wp2_with fail
  refine (IM.out w4 (HE.out.below L4.out)).mono ?_
  rintro e w5 ⟨gg, mg, cg, rg, rfl, hm, hcg, hg, hb, hl⟩
  have hmg : mg ≤ 83 := by have := HLL.out; omega
  have MG := Lib.hid hm
  have G5 := Lib.hid hb
  have W5 := Lib.hid (W4.out.below hl W4.out.lt)
  have X5 := Lib.hid (X4.out.below hl)
  have NW := Lib.hid (show gw ≠ gg from fun e => by have := W4.out.lt; omega)
  have GG := Lib.hid (Nat.le_trans L4.out.size hg)
  have L5 := Lib.hid (L4.out.trans (hl.mono L4.out.size))
  have XG := Lib.hid (show w.heap.size ≠ gg from fun e => by have := X4.out.lt; omega)
  clear hm hg hb hl X4 L4 W4
  go_wp2_with fail
  refine (eqByteS_same _ _ mg cg mw cw L w5 (MG.out ▸ (G5.out.sl'.wider G5.out.lt)) (MW.out ▸ (W5.out.sl'.wider W5.out.lt)) (by omega) (by omega)).mono ?_
  rintro e w6 ⟨rfl, hl⟩
  have G6 := Lib.hid (G5.out.below hl G5.out.lt)
  have W6 := Lib.hid (W5.out.below hl W5.out.lt)
  have X6 := Lib.hid (X5.out.below hl)
  have L6 := Lib.hid (L5.out.trans (hl.mono L5.out.size))
  clear hl G5 W5 X5 L5
  go_wp2_with fail
  refine (markByteS_one gg mg cg L rg w6 G6.out MG.out (by omega)).mono ?_
  rintro e w7 ⟨rfl, m7, g7⟩
  have M7 := Lib.hid m7
  have W7 := Lib.hid (W6.out.grown g7 (fun e => NW.out (Option.some.inj e)))
  have X7 := Lib.hid (X6.out.grown g7 (fun e => XG.out (Option.some.inj e)))
  have L7 := Lib.hid (L6.out.grown g7 L6.out.size (fun j hj => by cases hj; exact GG.out))
  clear m7 g7 L6 G6 W6 X6
  go_wp2_with fail
  refine (heldByteS_one gg mg cg rg w7 M7.out (by omega)).mono ?_
  rintro e w8 ⟨rfl, rfl⟩
  obtain ⟨x0, x1, x2, x3, x4, x5⟩ := X7.out
  go_wp2_with fail
  refine (toRecord_any a w7).mono ?_
  rintro e w8 ⟨rfl, hl⟩
  have L8 := Lib.hid (L7.out.trans (hl.mono L7.out.size))
  have M8 := Lib.hid (M7.out.below hl M7.out.lt)
  have W8 := Lib.hid (W7.out.below hl W7.out.lt)
  clear hl X7 L7 W7 M7 x0 x1 x2 x3 x4 x5
  go_wp2_with fail
  refine (IM.out w8 (HE.out.below L8.out)).mono ?_
  rintro e w9 ⟨gh, mh, ch, rh, rfl, hm, hch, hg, hb, hl⟩
  have hmh : mh ≤ 83 := by have := HLL.out; omega
  have MH := Lib.hid hm
  have H9 := Lib.hid hb
  have M9 := Lib.hid (M8.out.below hl M8.out.lt)
  have W9 := Lib.hid (W8.out.below hl W8.out.lt)
  have L9 := Lib.hid (L8.out.trans (hl.mono L8.out.size))
  clear hm hg hb hl L8 M8 W8
  go_wp2_with fail
  refine (eqByteS_same _ _ mh ch mw cw L w9 (MH.out ▸ (H9.out.sl'.wider H9.out.lt)) (MW.out ▸ (W9.out.sl'.wider W9.out.lt)) (by omega) (by omega)).mono ?_
  rintro e w10 ⟨rfl, hl⟩
  have M10 := Lib.hid (M9.out.below hl M9.out.lt)
  have L10 := Lib.hid (L9.out.trans (hl.mono L9.out.size))
  clear hl L9 M9 W9 H9
  go_wp2_with fail
  refine (heldByteS_one gg mg cg rg w10 M10.out (by omega)).mono ?_
  rintro e w11 ⟨rfl, rfl⟩
  go_wp2
  go_ret
  exact ⟨rfl, L10.out⟩
end Go.Proofs.YtcpadkehalgddaaDoor.LawPutData
