/- The law FnExactPutName returns true on every slice that reads as bytes and every text, and turns nothing that was there, where the library's variable internal/bytealg.MaxLen holds an int: PutName answers as its model. -/
import Derived.Test.YtpjkfionhjbjiaaDoorEq
import Derived.Test.YtpjkfionhjbjiaaDoorCopy
import Derived.Test.YtpjkfionhjbjiaaDoorPutName
namespace Go.Proofs.YtpjkfionhjbjiaaDoor.LawPutName
open Go.RowKit Go.Proofs.YtpjkfionhjbjiaaDoor.Mem Go.Proofs.YtpjkfionhjbjiaaDoor.Copy Go.Proofs.YtpjkfionhjbjiaaDoor.Eq Go.Proofs.YtpjkfionhjbjiaaDoor.Labels Go.Proofs.YtpjkfionhjbjiaaDoor.PutSpec Go.Proofs.YtpjkfionhjbjiaaDoor.App

set_option maxHeartbeats 4000000 in
theorem walk (A : Option Addr) (n c : Nat) (l : List UInt8) (s : ByteArray) (w : World) (hs : Sl w w.heap.size A n l) (_hc : n ≤ c) (_hnil : A = none → n = 0 ∧ c = 0) (he : Env w) :
    Calls Tryd.prog 8 #[.slice A n c, .string s] w fun e w' => e = .returned (.bool true) ∧ Below w.heap.size w w' := by
  have HE := Lib.hid he
  clear he
  by_cases hbig : 1048576 < n
  · have hb' : (1048576 : Int) < (n : Int) := by omega
    go_enter Tryd.func8, Tryd.ntmps8
    go_wp2
    go_ret
    exact ⟨rfl, Below.refl _ _⟩
  by_cases hbs : 1048576 < s.size
  · have hb' : ¬ (1048576 : Int) < (n : Int) := by omega
    have hb2 : (1048576 : Int) < (s.size : Int) := by omega
    go_enter Tryd.func8, Tryd.ntmps8
    go_wp2
    go_ret
    exact ⟨rfl, Below.refl _ _⟩
  · have hb' : ¬ (1048576 : Int) < (n : Int) := by omega
    have hb2 : ¬ (1048576 : Int) < (s.size : Int) := by omega
    have hn : n ≤ 1048576 := by omega
    have HS := Lib.hid hs
    have HL := Lib.hid hs.1
    have HT := Lib.hid (tailN_len l s)
    clear hs hbig _hnil
    generalize hL : l ++ tailN l s = L
    have HLL : Hid (L.length ≤ n + 80) := by
      show _ ≤ _
      rw [← hL, List.length_append, HL.out]
      have := HT.out
      omega
    have HEQ := Lib.hid hL
    clear hL
    have spec := fun A w hs hn => HEQ.out ▸ (PutSpec.spec A n n l s w hs (Nat.le_refl _) hn (by omega) (by omega)).mono fun _ _ h => h.gives
    have impl := fun A w he hs hn => HEQ.out ▸ PutName.impl A n n l s w he hs (Nat.le_refl _) hn (by omega) (by omega)
    have SP := Lib.hid spec
    have IM := Lib.hid impl
    clear spec impl
    go_enter Tryd.func8, Tryd.ntmps8
    go_wp2_with fail
    refine (toByteS_any A n c l w HS.out (by omega)).mono ?_
    rintro e w1 ⟨rfl, b1, l1⟩
    have B1 := Lib.hid b1
    have L1 := Lib.hid l1
    clear b1 l1
    go_wp2_with fail
    refine (SP.out _ w1 (HL.out ▸ (B1.out.sl.wider B1.out.lt)) (fun h => by cases h)).mono ?_
    rintro e w2 ⟨gw, mw, cw, rw, rfl, hm, hcw, hg, b2, l2⟩
    have hmw : mw ≤ 1048656 := by have := HLL.out; omega
    have MW := Lib.hid hm
    have GW := Lib.hid (Nat.le_trans L1.out.size hg)
    have W2 := Lib.hid b2
    have L2 := Lib.hid (L1.out.trans (l2.mono L1.out.size))
    clear hm hg b2 l2 L1 B1
    go_wp2_with fail
    refine (toByteS_any A n c l w2 ((HS.out.below L2.out).wider L2.out.size) (by omega)).mono ?_
    rintro e w3 ⟨rfl, b3, l3⟩
    have X3 := Lib.hid b3
    have W3 := Lib.hid (W2.out.below l3 W2.out.lt)
    have GX := Lib.hid (Nat.ne_of_lt W2.out.lt)
    have GX2 := Lib.hid L2.out.size
    have L3 := Lib.hid (L2.out.trans (l3.mono L2.out.size))
    obtain ⟨gx, hgx⟩ : ∃ gx, gx = w2.heap.size := ⟨_, rfl⟩
    rw [← hgx] at X3 GX GX2 ⊢
    clear hgx b3 l3 L2 W2
    go_wp2_with fail
    refine (IM.out _ w3 (HE.out.below L3.out) (HL.out ▸ (X3.out.sl.wider X3.out.lt)) (fun h => by cases h)).mono ?_
    rintro e w4 ⟨gg, mg, cg, rg, rfl, hm, hcg, hg, b4, l4⟩
    have hmg : mg ≤ 1048656 := by have := HLL.out; omega
    have MG := Lib.hid hm
    have G4 := Lib.hid b4
    have X4 := Lib.hid (X3.out.below l4 X3.out.lt)
    have W4 := Lib.hid (W3.out.below l4 W3.out.lt)
    have NX := Lib.hid (show gx ≠ gg from fun e => by have := X3.out.lt; omega)
    have NW := Lib.hid (show gw ≠ gg from fun e => by have := W3.out.lt; omega)
    have GG := Lib.hid (Nat.le_trans L3.out.size hg)
    have L4 := Lib.hid (L3.out.trans (l4.mono L3.out.size))
    clear hm hg b4 l4 L3 X3 W3
    go_wp2_with fail
    refine (eqByteS_same _ _ mg cg mw cw L w4 (MG.out ▸ (G4.out.sl'.wider G4.out.lt)) (MW.out ▸ (W4.out.sl'.wider W4.out.lt)) (by omega) (by omega)).mono ?_
    rintro e w5 ⟨rfl, l5⟩
    have G5 := Lib.hid (G4.out.below l5 G4.out.lt)
    have X5 := Lib.hid (X4.out.below l5 X4.out.lt)
    have W5 := Lib.hid (W4.out.below l5 W4.out.lt)
    have L5 := Lib.hid (L4.out.trans (l5.mono L4.out.size))
    clear l5 L4 G4 X4 W4
    go_wp2_with fail
    refine (toByteS_any A n c l w5 ((HS.out.below L5.out).wider L5.out.size) (by omega)).mono ?_
    rintro e w6 ⟨rfl, b6, l6⟩
    have T6 := Lib.hid b6
    have G6 := Lib.hid (G5.out.below l6 G5.out.lt)
    have X6 := Lib.hid (X5.out.below l6 X5.out.lt)
    have W6 := Lib.hid (W5.out.below l6 W5.out.lt)
    have L6 := Lib.hid (L5.out.trans (l6.mono L5.out.size))
    clear b6 l6 L5 G5 X5 W5
    go_wp2_with fail
    refine (eqByteS_same _ _ n n n n l w6 (HL.out ▸ (X6.out.sl.wider X6.out.lt)) (HL.out ▸ (T6.out.sl.wider T6.out.lt)) (by omega) (by omega)).mono ?_
    rintro e w7 ⟨rfl, l7⟩
    have G7 := Lib.hid (G6.out.below l7 G6.out.lt)
    have X7 := Lib.hid (X6.out.below l7 X6.out.lt)
    have W7 := Lib.hid (W6.out.below l7 W6.out.lt)
    have L7 := Lib.hid (L6.out.trans (l7.mono L6.out.size))
    clear l7 L6 G6 X6 W6 T6
    go_wp2_with fail
    refine (markByteS_one gx n n l [] w7 (by rw [List.append_nil]; exact X7.out) HL.out (by omega)).mono ?_
    rintro e w8 ⟨rfl, _, g8⟩
    have G8 := Lib.hid (G7.out.grown g8 (fun e => NX.out (Option.some.inj e).symm))
    have W8 := Lib.hid (W7.out.grown g8 (fun e => GX.out (Option.some.inj e)))
    have L8 := Lib.hid (L7.out.grown g8 L7.out.size (fun j hj => by cases hj; exact GX2.out))
    clear g8 L7 G7 X7 W7
    go_wp2_with fail
    refine (eqByteS_same _ _ mg cg mw cw L w8 (MG.out ▸ (G8.out.sl'.wider G8.out.lt)) (MW.out ▸ (W8.out.sl'.wider W8.out.lt)) (by omega) (by omega)).mono ?_
    rintro e w9 ⟨rfl, l9⟩
    have G9 := Lib.hid (G8.out.below l9 G8.out.lt)
    have W9 := Lib.hid (W8.out.below l9 W8.out.lt)
    have L9 := Lib.hid (L8.out.trans (l9.mono L8.out.size))
    clear l9 L8 G8 W8
    go_wp2_with fail
    refine (markByteS_one gg mg cg L rg w9 G9.out MG.out (by omega)).mono ?_
    rintro e w10 ⟨rfl, m10, g10⟩
    have M10 := Lib.hid m10
    have W10 := Lib.hid (W9.out.grown g10 (fun e => NW.out (Option.some.inj e)))
    have L10 := Lib.hid (L9.out.grown g10 L9.out.size (fun j hj => by cases hj; exact GG.out))
    clear m10 g10 L9 G9 W9
    go_wp2_with fail
    refine (heldByteS_one gg mg cg rg w10 M10.out (by omega)).mono ?_
    rintro e w11 ⟨rfl, rfl⟩
    go_wp2_with fail
    refine (toByteS_any A n c l w10 ((HS.out.below L10.out).wider L10.out.size) (by omega)).mono ?_
    rintro e w11 ⟨rfl, b11, l11⟩
    have T11 := Lib.hid b11
    have M11 := Lib.hid (M10.out.below l11 M10.out.lt)
    have W11 := Lib.hid (W10.out.below l11 W10.out.lt)
    have L11 := Lib.hid (L10.out.trans (l11.mono L10.out.size))
    clear b11 l11 L10 M10 W10
    go_wp2_with fail
    refine (IM.out _ w11 (HE.out.below L11.out) (HL.out ▸ (T11.out.sl.wider T11.out.lt)) (fun h => by cases h)).mono ?_
    rintro e w12 ⟨gh, mh, ch, rh, rfl, hm, hch, hg, b12, l12⟩
    have hmh : mh ≤ 1048656 := by have := HLL.out; omega
    have MH := Lib.hid hm
    have H12 := Lib.hid b12
    have M12 := Lib.hid (M11.out.below l12 M11.out.lt)
    have W12 := Lib.hid (W11.out.below l12 W11.out.lt)
    have L12 := Lib.hid (L11.out.trans (l12.mono L11.out.size))
    clear hm hg b12 l12 L11 M11 W11 T11
    go_wp2_with fail
    refine (eqByteS_same _ _ mh ch mw cw L w12 (MH.out ▸ (H12.out.sl'.wider H12.out.lt)) (MW.out ▸ (W12.out.sl'.wider W12.out.lt)) (by omega) (by omega)).mono ?_
    rintro e w13 ⟨rfl, l13⟩
    have M13 := Lib.hid (M12.out.below l13 M12.out.lt)
    have L13 := Lib.hid (L12.out.trans (l13.mono L12.out.size))
    clear l13 L12 M12 W12 H12
    go_wp2_with fail
    refine (heldByteS_one gg mg cg rg w13 M13.out (by omega)).mono ?_
    rintro e w14 ⟨rfl, rfl⟩
    go_wp2
    go_ret
    exact ⟨rfl, L13.out⟩
end Go.Proofs.YtpjkfionhjbjiaaDoor.LawPutName
