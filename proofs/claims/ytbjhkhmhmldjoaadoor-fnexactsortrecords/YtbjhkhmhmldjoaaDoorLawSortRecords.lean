/- The law FnExactSortRecords returns true at every slice of records, where the library's variable internal/bytealg.MaxLen holds an int, and turns nothing that was there. -/
import Derived.Test.YtbjhkhmhmldjoaaDoorSzR
import Derived.Test.YtbjhkhmhmldjoaaDoorCopyR
import Derived.Test.YtbjhkhmhmldjoaaDoorEqR
import Derived.Test.YtbjhkhmhmldjoaaDoorMarkR
import Derived.Test.YtbjhkhmhmldjoaaDoorSortP
import Derived.Test.YtbjhkhmhmldjoaaDoorSortS
namespace Go.Proofs.YtbjhkhmhmldjoaaDoor.LawSortRecords
open Go.RowKit Go.Proofs.YtbjhkhmhmldjoaaDoor.Mem Go.Proofs.YtbjhkhmhmldjoaaDoor.MemR Go.Proofs.YtbjhkhmhmldjoaaDoor.SzR Go.Proofs.YtbjhkhmhmldjoaaDoor.CopyR Go.Proofs.YtbjhkhmhmldjoaaDoor.EqR Go.Proofs.YtbjhkhmhmldjoaaDoor.MarkR Go.Proofs.YtbjhkhmhmldjoaaDoor.SrtMath Go.Proofs.YtbjhkhmhmldjoaaDoor.LessR Go.Proofs.YtbjhkhmhmldjoaaDoor.SortP

set_option maxHeartbeats 8000000 in
theorem walk (A : Option Addr) (n c : Nat) (l : List Rec) (w : World) (he : Labels.Env w) (hs : Sr w w.heap.size A n l) (hn : n ≤ 9223372036854775807) (hz : ∀ r ∈ l, r.name.size ≤ 9223372036854775807 ∧ r.host.size ≤ 9223372036854775807 ∧ r.text.size ≤ 9223372036854775807) :
    Calls Tryd.prog 4 #[.slice A n c] w fun e w' => e = .returned (.bool true) ∧ Below w.heap.size w w' := by
  have HE := Lib.hid he
  have S0 := Lib.hid hs
  have Z0 := Lib.hid hz
  clear he hs hz
  go_enter Tryd.func4, Tryd.ntmps4
  go_wp2_with fail
  refine (szRecordS_any A n c l 1048576 w S0.out (by omega) (by omega) hn Z0.out).mono ?_
  rintro e w1 ⟨y, rfl, hy0, hy1, hy, hl⟩
  have Y0 := Lib.hid hy
  have L1 := Lib.hid hl
  clear hy hl
  by_cases hneg : y < 0
  · go_wp2
    go_ret
    exact ⟨rfl, L1.out⟩
  have Y1 := Lib.hid (Y0.out (by omega))
  clear Y0
  have bn : n ≤ 400000000 := by have := Y1.out; have := S0.out.1; omega
  have bm : n ≤ 2000000 := by have := Y1.out; have := S0.out.1; omega
  have HF : Hid (∀ r ∈ l, Fine r) := fun r hr => by
    have h1 := tot_le l r hr
    have h2 := Y1.out
    unfold rz at h1
    exact ⟨by omega, by omega⟩
  have HN : Hid (l.length = n) := S0.out.1
  clear Y1 Z0
  have hk0 : ¬ (1 : Int) + 6 * (n : Int) < 0 := by omega
  have q1 : ((1 : Int) + 6 * (n : Int) != 1 + 6 * (n : Int)) = false := by simp
  go_wp2_with fail
  refine (toRecordS_any A n c l w1 (S0.out.on L1.out) bn).mono ?_
  rintro e w2 ⟨rfl, hb, hl⟩
  have P2 := Lib.hid hb
  have L2 := Lib.hid (L1.out.trans (hl.mono L1.out.size))
  clear hb hl
  generalize w1.heap.size = g1 at *
  clear L1
  go_wp2_with fail
  refine (SortS.spec g1 0 n n l w2 (bk_sr0 P2.out HN.out) bn HF.out).mono ?_
  rintro e w3 ⟨L, gw, cw, rw, hS, rfl, hc, hg, hb, hl⟩
  have HS := Lib.hid hS
  have HM : Hid (L.length = n) := hS.length.trans HN.out
  have W3 := Lib.hid hb
  have L3 := Lib.hid (L2.out.trans (hl.mono L2.out.size))
  clear hS hc hg hb hl P2 L2
  go_wp2_with fail
  refine (toRecordS_any A n c l w3 (S0.out.on L3.out) bn).mono ?_
  rintro e w4 ⟨rfl, hb, hl⟩
  have X4 := Lib.hid hb
  have W4 := Lib.hid (W3.out.below hl W3.out.lt)
  have L4 := Lib.hid (L3.out.trans (hl.mono L3.out.size))
  have NWX := Lib.hid (Nat.ne_of_lt W3.out.lt)
  have GX := Lib.hid L3.out.size
  clear hb hl W3 L3
  generalize w3.heap.size = gx at *
  go_wp2_with fail
  refine (SortP.impl gx 0 n n l w4 (bk_sr0 X4.out HN.out) (HE.out.below L4.out) bn HF.out).mono ?_
  rintro e w5 ⟨L', gg, cg, rg, hS, rfl, hc, hg, hb, hl⟩
  obtain rfl : L = L' := HS.out.unique hS
  have G5 := Lib.hid hb
  have W5 := Lib.hid (W4.out.below hl W4.out.lt)
  have X5 := Lib.hid (X4.out.below hl X4.out.lt)
  have L5 := Lib.hid (L4.out.trans (hl.mono L4.out.size))
  have NGX := Lib.hid (show gg ≠ gx from fun e => by have := X4.out.lt; omega)
  have NWG := Lib.hid (show gw ≠ gg from fun e => by have := W4.out.lt; omega)
  have GG := Lib.hid (Nat.le_trans L4.out.size hg)
  clear hS hc hg hb hl W4 X4 L4
  go_wp2_with fail
  refine (eqRecordS_same _ _ n cg cw L w5 (bk_sr G5.out HM.out) (bk_sr W5.out HM.out) bn).mono ?_
  rintro e w6 ⟨rfl, hl⟩
  have G6 := Lib.hid (G5.out.below hl G5.out.lt)
  have W6 := Lib.hid (W5.out.below hl W5.out.lt)
  have X6 := Lib.hid (X5.out.below hl X5.out.lt)
  have L6 := Lib.hid (L5.out.trans (hl.mono L5.out.size))
  clear hl G5 W5 X5 L5
  go_wp2_with fail
  refine (toRecordS_any A n c l w6 (S0.out.on L6.out) bn).mono ?_
  rintro e w7 ⟨rfl, hb, hl⟩
  have V7 := Lib.hid hb
  have G7 := Lib.hid (G6.out.below hl G6.out.lt)
  have W7 := Lib.hid (W6.out.below hl W6.out.lt)
  have X7 := Lib.hid (X6.out.below hl X6.out.lt)
  have L7 := Lib.hid (L6.out.trans (hl.mono L6.out.size))
  clear hb hl G6 W6 X6 L6
  generalize w6.heap.size = gv at *
  go_wp2_with fail
  refine (eqRecordS_same _ _ n n n l w7 (bk_sr0 X7.out HN.out) (bk_sr0 V7.out HN.out) bn).mono ?_
  rintro e w8 ⟨rfl, hl⟩
  have G8 := Lib.hid (G7.out.below hl G7.out.lt)
  have W8 := Lib.hid (W7.out.below hl W7.out.lt)
  have X8 := Lib.hid (X7.out.below hl X7.out.lt)
  have L8 := Lib.hid (L7.out.trans (hl.mono L7.out.size))
  clear hl G7 W7 X7 L7 V7
  go_wp2_with fail
  refine (markRecordS_one gx n n l [] w8 (by rw [List.append_nil]; exact X8.out) HN.out bm).mono ?_
  rintro e w9 ⟨rfl, m9, g9⟩
  have G9 := Lib.hid (G8.out.grown g9 (fun e => NGX.out (Option.some.inj e)))
  have W9 := Lib.hid (W8.out.grown g9 (fun e => NWX.out (Option.some.inj e)))
  have L9 := Lib.hid (L8.out.grown g9 L8.out.size (fun j hj => by cases hj; exact GX.out))
  clear m9 g9 G8 W8 X8 L8
  go_wp2_with fail
  refine (eqRecordS_same _ _ n cg cw L w9 (bk_sr G9.out HM.out) (bk_sr W9.out HM.out) bn).mono ?_
  rintro e w10 ⟨rfl, hl⟩
  have G10 := Lib.hid (G9.out.below hl G9.out.lt)
  have W10 := Lib.hid (W9.out.below hl W9.out.lt)
  have L10 := Lib.hid (L9.out.trans (hl.mono L9.out.size))
  clear hl G9 W9 L9
  go_wp2_with fail
  refine (markRecordS_one gg n cg L rg w10 G10.out HM.out bm).mono ?_
  rintro e w11 ⟨rfl, m11, g11⟩
  have M11 := Lib.hid m11
  have W11 := Lib.hid (W10.out.grown g11 (fun e => NWG.out (Option.some.inj e)))
  have L11 := Lib.hid (L10.out.grown g11 L10.out.size (fun j hj => by cases hj; exact GG.out))
  clear m11 g11 G10 W10 L10
  go_wp2_with fail
  refine (heldRecordS_one gg n cg rg w11 M11.out bm).mono ?_
  rintro e w12 ⟨rfl, hl⟩
  have M12 := Lib.hid (M11.out.below hl M11.out.lt)
  have W12 := Lib.hid (W11.out.below hl W11.out.lt)
  have L12 := Lib.hid (L11.out.trans (hl.mono L11.out.size))
  clear hl M11 W11 L11
  go_wp2_with fail
  refine (toRecordS_any A n c l w12 (S0.out.on L12.out) bn).mono ?_
  rintro e w13 ⟨rfl, hb, hl⟩
  have V13 := Lib.hid hb
  have M13 := Lib.hid (M12.out.below hl M12.out.lt)
  have W13 := Lib.hid (W12.out.below hl W12.out.lt)
  have L13 := Lib.hid (L12.out.trans (hl.mono L12.out.size))
  clear hb hl M12 W12 L12
  generalize w12.heap.size = gu at *
  go_wp2_with fail
  refine (SortP.impl gu 0 n n l w13 (bk_sr0 V13.out HN.out) (HE.out.below L13.out) bn HF.out).mono ?_
  rintro e w14 ⟨L', gh, ch, rh, hS, rfl, hc, hg, hb, hl⟩
  obtain rfl : L = L' := HS.out.unique hS
  have H14 := Lib.hid hb
  have M14 := Lib.hid (M13.out.below hl M13.out.lt)
  have W14 := Lib.hid (W13.out.below hl W13.out.lt)
  have L14 := Lib.hid (L13.out.trans (hl.mono L13.out.size))
  clear hS hc hg hb hl W13 M13 L13 V13
  go_wp2_with fail
  refine (eqRecordS_same _ _ n ch cw L w14 (bk_sr H14.out HM.out) (bk_sr W14.out HM.out) bn).mono ?_
  rintro e w15 ⟨rfl, hl⟩
  have M15 := Lib.hid (M14.out.below hl M14.out.lt)
  have L15 := Lib.hid (L14.out.trans (hl.mono L14.out.size))
  clear hl M14 W14 L14 H14
  go_wp2_with fail
  refine (heldRecordS_one gg n cg rg w15 M15.out bm).mono ?_
  rintro e w16 ⟨rfl, hl⟩
  have L16 := Lib.hid (L15.out.trans (hl.mono L15.out.size))
  clear hl M15 L15
  go_wp2
  go_ret
  exact ⟨rfl, L16.out⟩

end Go.Proofs.YtbjhkhmhmldjoaaDoor.LawSortRecords
