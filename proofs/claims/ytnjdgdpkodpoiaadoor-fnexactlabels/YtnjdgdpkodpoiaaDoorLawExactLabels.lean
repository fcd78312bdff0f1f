/- The law FnExactLabels returns true at every text, where the library's variable internal/bytealg.MaxLen holds an int, and turns nothing that was there. -/
import Derived.Test.YtnjdgdpkodpoiaaDoorLabels
import Derived.Test.YtnjdgdpkodpoiaaDoorEqS
import Derived.Test.YtnjdgdpkodpoiaaDoorMarkS
namespace Go.Proofs.YtnjdgdpkodpoiaaDoor.LawExactLabels
open Go.RowKit Go.Proofs.YtnjdgdpkodpoiaaDoor.Mem Go.Proofs.YtnjdgdpkodpoiaaDoor.MemS Go.Proofs.YtnjdgdpkodpoiaaDoor.AppS Go.Proofs.YtnjdgdpkodpoiaaDoor.Split Go.Proofs.YtnjdgdpkodpoiaaDoor.Labels Go.Proofs.YtnjdgdpkodpoiaaDoor.EqS Go.Proofs.YtnjdgdpkodpoiaaDoor.MarkS

set_option maxHeartbeats 4000000 in
theorem walk (s : ByteArray) (w : World) (he : Env w) :
    Calls Tryd.prog 4 #[.string s] w fun e w' => e = .returned (.bool true) ∧ Below w.heap.size w w' := by
  have HE := Lib.hid he
  clear he
  by_cases hbig : s.size ≤ 1048576
  · have hb' : ¬ (1048576 : Int) < (s.size : Int) := by omega
    have hlen := lab_len s
    have SP := Lib.hid (fun w => Labels.spec s w (by omega))
    have IM := Lib.hid (fun w he => Labels.impl s w he (by omega))
    generalize Lab s = L at *
    have HN : Hid (L.length ≤ 1048577) := by show _ ≤ _; omega
    clear hlen
    go_enter Tryd.func4, Tryd.ntmps4
    go_wp2_with fail
    refine (SP.out w).mono ?_
    rintro e w1 ⟨gw, n, cw, rw, rfl, hm, hcw, hg, hb, hl⟩
    have hn : n ≤ 1048577 := by have := HN.out; omega
    have HM := Lib.hid hm
    have W1 := Lib.hid hb
    have L1 := Lib.hid hl
    clear hm hg hb hl
    go_wp2_with fail
    refine (IM.out w1 (HE.out.below L1.out)).mono ?_
    rintro e w2 ⟨gg, n2, cg, rg, rfl, hm, hcg, hg, hb, hl⟩
    obtain rfl : n = n2 := by have := HM.out; omega
    have G2 := Lib.hid hb
    have W2 := Lib.hid (W1.out.below hl W1.out.lt)
    have NW := Lib.hid (show gw ≠ gg from fun e => by have := W1.out.lt; omega)
    have GG := Lib.hid (Nat.le_trans L1.out.size hg)
    have L2 := Lib.hid (L1.out.trans (hl.mono L1.out.size))
    clear hm hg hb hl W1 L1
    go_wp2_with fail
    refine (eqStringS_same _ _ n cg cw L w2 w2.heap.size (bk_ssw G2.out HM.out) (bk_ssw W2.out HM.out) (by omega)).mono ?_
    rintro e w3 ⟨rfl, hl⟩
    have G3 := Lib.hid (G2.out.below hl G2.out.lt)
    have W3 := Lib.hid (W2.out.below hl W2.out.lt)
    have L3 := Lib.hid (L2.out.trans (hl.mono L2.out.size))
    clear hl G2 W2 L2
    go_wp2_with fail
    refine (markStringS_one gg n cg L rg w3 G3.out HM.out (by omega)).mono ?_
    rintro e w4 ⟨rfl, m4, g4⟩
    have M4 := Lib.hid m4
    have W4 := Lib.hid (W3.out.grown g4 (fun e => NW.out (Option.some.inj e)))
    have L4 := Lib.hid (L3.out.grown g4 L3.out.size (fun j hj => by cases hj; exact GG.out))
    clear m4 g4 G3 W3 L3
    go_wp2_with fail
    refine (heldStringS_one gg n cg rg w4 M4.out (by omega)).mono ?_
    rintro e w5 ⟨rfl, hl⟩
    have M5 := Lib.hid (M4.out.below hl M4.out.lt)
    have W5 := Lib.hid (W4.out.below hl W4.out.lt)
    have L5 := Lib.hid (L4.out.trans (hl.mono L4.out.size))
    clear hl M4 W4 L4
    have q1 : ((1 : Int) + (n : Int) != 1 + (n : Int)) = false := by simp
    go_wp2_with fail
    refine (IM.out w5 (HE.out.below L5.out)).mono ?_
    rintro e w6 ⟨gh, n3, ch, rh, rfl, hm, hch, hg, hb, hl⟩
    obtain rfl : n = n3 := by have := HM.out; omega
    have H6 := Lib.hid hb
    have M6 := Lib.hid (M5.out.below hl M5.out.lt)
    have W6 := Lib.hid (W5.out.below hl W5.out.lt)
    have L6 := Lib.hid (L5.out.trans (hl.mono L5.out.size))
    clear hm hg hb hl M5 W5 L5
    go_wp2_with fail
    refine (eqStringS_same _ _ n ch cw L w6 w6.heap.size (bk_ssw H6.out HM.out) (bk_ssw W6.out HM.out) (by omega)).mono ?_
    rintro e w7 ⟨rfl, hl⟩
    have M7 := Lib.hid (M6.out.below hl M6.out.lt)
    have L7 := Lib.hid (L6.out.trans (hl.mono L6.out.size))
    clear hl M6 W6 L6 H6
    go_wp2_with fail
    refine (heldStringS_one gg n cg rg w7 M7.out (by omega)).mono ?_
    rintro e w8 ⟨rfl, hl⟩
    have L8 := Lib.hid (L7.out.trans (hl.mono L7.out.size))
    clear hl M7 L7
    go_wp2
    go_ret
    exact ⟨rfl, L8.out⟩
  · have hb' : (1048576 : Int) < (s.size : Int) := by omega
    go_enter Tryd.func4, Tryd.ntmps4
    go_wp2
    go_ret
    exact ⟨rfl, Below.refl _ _⟩
end Go.Proofs.YtnjdgdpkodpoiaaDoor.LawExactLabels
