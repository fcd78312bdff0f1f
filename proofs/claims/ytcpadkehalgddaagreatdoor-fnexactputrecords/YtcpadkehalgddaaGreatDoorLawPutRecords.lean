/- The law FnExactPutRecords returns true at every slice of bytes and every slice of records, where the library's variable internal/bytealg.MaxLen holds an int, and turns nothing that was there: PutRecords answers as its model. -/
import Derived.Test.YtcpadkehalgddaaGreatDoorPutsP
import Derived.Test.YtcpadkehalgddaaGreatDoorSzR
import Derived.Test.YtcpadkehalgddaaGreatDoorCopyR
import Derived.Test.YtcpadkehalgddaaGreatDoorEq
import Derived.Test.YtcpadkehalgddaaGreatDoorEqR
import Derived.Test.YtcpadkehalgddaaGreatDoorMarkR2
namespace Go.Proofs.YtcpadkehalgddaaGreatDoor.LawPutRecords
open Go.RowKit Go.Proofs.YtcpadkehalgddaaGreatDoor.Mem Go.Proofs.YtcpadkehalgddaaGreatDoor.MemR Go.Proofs.YtcpadkehalgddaaGreatDoor.Labels Go.Proofs.YtcpadkehalgddaaGreatDoor.SzR Go.Proofs.YtcpadkehalgddaaGreatDoor.Copy Go.Proofs.YtcpadkehalgddaaGreatDoor.CopyR Go.Proofs.YtcpadkehalgddaaGreatDoor.Eq Go.Proofs.YtcpadkehalgddaaGreatDoor.EqR Go.Proofs.YtcpadkehalgddaaGreatDoor.FieldMath Go.Proofs.YtcpadkehalgddaaGreatDoor.App Go.Proofs.YtcpadkehalgddaaGreatDoor.DataS

set_option maxRecDepth 100000 in
set_option maxHeartbeats 8000000 in
theorem walk (A : Option Addr) (n c : Nat) (l : List UInt8) (A' : Option Addr) (n' c' : Nat) (R : List Rec) (w : World) (he : Env w) (hs : Sl w w.heap.size A n l) (_hc : n ≤ c) (_hnil : A = none → n = 0 ∧ c = 0) (hS : Sr w w.heap.size A' n' R) (hn : n' ≤ 9223372036854775807) (hz : ∀ r ∈ R, r.name.size ≤ 9223372036854775807 ∧ r.host.size ≤ 9223372036854775807 ∧ r.text.size ≤ 9223372036854775807) :
    Calls Tryz.prog 5 #[.slice A n c, .slice A' n' c'] w fun e w' => e = .returned (.bool true) ∧ Below w.heap.size w w' := by
  have HE := Lib.hid he
  have HS := Lib.hid hs
  have HL := Lib.hid hs.1
  have S0 := Lib.hid hS
  have Z0 := Lib.hid hz
  clear he hs hS hz _hnil
  by_cases hbig : 1048576 < n
  · have hb' : (1048576 : Int) < (n : Int) := by omega
    go_enter Tryz.func5, Tryz.ntmps5
    go_wp2
    go_ret
    exact ⟨rfl, Below.refl _ _⟩
  have hb' : ¬ (1048576 : Int) < (n : Int) := by omega
  go_enter Tryz.func5, Tryz.ntmps5
  go_wp2_with fail
  refine (szRecordS_any A' n' c' R 1048576 w S0.out (by omega) (by omega) hn Z0.out).mono ?_
  rintro e w1 ⟨y, rfl, hy0, hy1, hy, hl⟩
  have Y0 := Lib.hid hy
  have L1 := Lib.hid hl
  clear hy hl
  by_cases hneg : y < 0
  · go_wp2
    go_ret
    exact ⟨rfl, L1.out⟩
  have Y1 := Lib.hid (Y0.out (by omega))
  clear Y0
  have bn : n' ≤ 1048576 := by have := Y1.out; have := S0.out.1; omega
  have HF : Hid (∀ r ∈ R, Med r) := fun r hr => by
    have h1 := tot_le R r hr
    have h2 := Y1.out
    unfold rz at h1
    exact ⟨by omega, by omega, by omega⟩
  have HN : Hid (R.length = n') := S0.out.1
  clear Y1 Z0
  have HLL : Hid ((puts l R).length ≤ 190000000) := by
    show _ ≤ _
    have := puts_len R l
    rw [HL.out, HN.out] at this
    omega
  have SP : Hid (∀ (g h : Nat) (W : World), Bk W g 5 (l.map bv) → Bk W h 25 (fl R) → Calls Tryz.prog 18 #[.slice (some ⟨g, 0, none⟩) n n, .slice (some ⟨h, 0, none⟩) n' n'] W (Gives W (puts l R))) :=
    fun g h W hb hr => (PutsS.spec _ _ n n n' n' l R W (HL.out ▸ (hb.sl.wider hb.lt)) (fun h => by cases h) (by omega) (bk_sr0 hr HN.out) bn HF.out).mono fun _ _ h => h.gives
  have IM : Hid (∀ (g h : Nat) (W : World), Below w.heap.size w W → Bk W g 5 (l.map bv) → Bk W h 25 (fl R) → Calls Tryz.prog 17 #[.slice (some ⟨g, 0, none⟩) n n, .slice (some ⟨h, 0, none⟩) n' n'] W (Gives W (puts l R))) :=
    fun g h W hW hb hr => (PutsP.impl _ _ n n n' n' l R W (HE.out.below hW) (HL.out ▸ (hb.sl.wider hb.lt)) (fun h => by cases h) (by omega) (bk_sr0 hr HN.out) bn HF.out).mono fun _ _ h => h.gives
  have TB : Hid (∀ W : World, Below w.heap.size w W → Calls Tryz.prog 22 #[.slice A n c] W fun e w' => ∃ g, e = .returned (.slice (some ⟨g, 0, none⟩) n n) ∧ Bk w' g 5 (l.map bv) ∧ W.heap.size ≤ g ∧ Below W.heap.size W w') :=
    fun W hW => (toByteS_any A n c l W ((HS.out.below hW).wider hW.size) (by omega)).mono fun e w' ⟨h1, h2, h3⟩ => ⟨_, h1, h2, Nat.le_refl _, h3⟩
  have TR : Hid (∀ W : World, Below w.heap.size w W → Calls Tryz.prog 23 #[.slice A' n' c'] W fun e w' => ∃ g, e = .returned (.slice (some ⟨g, 0, none⟩) n' n') ∧ Bk w' g 25 (fl R) ∧ W.heap.size ≤ g ∧ Below W.heap.size W w') :=
    fun W hW => (toRecordS_any A' n' c' R W ((S0.out.below hW).wider hW.size) (by omega)).mono fun e w' ⟨h1, h2, h3⟩ => ⟨_, h1, h2, Nat.le_refl _, h3⟩
  generalize puts l R = L at *
  have hk0 : ¬ ((1 + n : Nat) : Int) + 6 * (n' : Int) < 0 := by omega
  go_wp2_with fail
  refine (TB.out w1 L1.out).mono ?_
  rintro e w2 ⟨gb, rfl, hb, hg, hl⟩
  have B2 := Lib.hid hb
  have L2 := Lib.hid (L1.out.trans (hl.mono L1.out.size))
  clear hl L1 hb hg
  go_wp2_with fail
  refine (TR.out w2 L2.out).mono ?_
  rintro e w3 ⟨gv, rfl, hb, hg, hl⟩
  have V3 := Lib.hid hb
  have L3 := Lib.hid (L2.out.trans (hl.mono L2.out.size))
  have B3 := Lib.hid (B2.out.below hl B2.out.lt)
  clear hl L2 B2 hb hg
  go_wp2_with fail
  refine (SP.out _ _ w3 B3.out V3.out).mono ?_
  rintro e w4 ⟨gw, mw, cw, rw, rfl, hm, hcw, hg, hb, hl⟩
  have hmw : mw ≤ 190000000 := by have := HLL.out; omega
  have MW := Lib.hid hm
  have W4 := Lib.hid hb
  have L4 := Lib.hid (L3.out.trans (hl.mono L3.out.size))
  clear hl L3 B3 V3 hm hg hb
  go_wp2_with fail
  refine (TB.out w4 L4.out).mono ?_
  rintro e w5 ⟨gx, rfl, hb, hg, hl⟩
  have X5 := Lib.hid hb
  have NWX := Lib.hid (show gw ≠ gx from fun e => by have := W4.out.lt; omega)
  have GX := Lib.hid (Nat.le_trans L4.out.size hg)
  have L5 := Lib.hid (L4.out.trans (hl.mono L4.out.size))
  have W5 := Lib.hid (W4.out.below hl W4.out.lt)
  clear hl L4 W4 hb hg
  go_wp2_with fail
  refine (TR.out w5 L5.out).mono ?_
  rintro e w6 ⟨gy, rfl, hb, hg, hl⟩
  have Y6 := Lib.hid hb
  have NWY := Lib.hid (show gw ≠ gy from fun e => by have := W5.out.lt; omega)
  have NXY := Lib.hid (show gx ≠ gy from fun e => by have := X5.out.lt; omega)
  have GY := Lib.hid (Nat.le_trans L5.out.size hg)
  have L6 := Lib.hid (L5.out.trans (hl.mono L5.out.size))
  have W6 := Lib.hid (W5.out.below hl W5.out.lt)
  have X6 := Lib.hid (X5.out.below hl X5.out.lt)
  clear hl L5 W5 X5 hb hg
  go_wp2_with fail
  refine (IM.out _ _ w6 L6.out X6.out Y6.out).mono ?_
  rintro e w7 ⟨gg, mg, cg, rg, rfl, hm, hcg, hg, hb, hl⟩
  have hmg : mg ≤ 190000000 := by have := HLL.out; omega
  have MG := Lib.hid hm
  have G7 := Lib.hid hb
  have NWG := Lib.hid (show gw ≠ gg from fun e => by have := W6.out.lt; omega)
  have NXG := Lib.hid (show gx ≠ gg from fun e => by have := X6.out.lt; omega)
  have NYG := Lib.hid (show gy ≠ gg from fun e => by have := Y6.out.lt; omega)
  have GG := Lib.hid (Nat.le_trans L6.out.size hg)
  have L7 := Lib.hid (L6.out.trans (hl.mono L6.out.size))
  have W7 := Lib.hid (W6.out.below hl W6.out.lt)
  have X7 := Lib.hid (X6.out.below hl X6.out.lt)
  have Y7 := Lib.hid (Y6.out.below hl Y6.out.lt)
  clear hl L6 W6 X6 Y6 hm hg hb
  go_wp2_with fail
  refine (eqByteS_same _ _ mg cg mw cw L w7 (MG.out ▸ (G7.out.sl'.wider G7.out.lt)) (MW.out ▸ (W7.out.sl'.wider W7.out.lt)) (by omega) (by omega)).mono ?_
  rintro e w8 ⟨rfl, hl⟩
  have L8 := Lib.hid (L7.out.trans (hl.mono L7.out.size))
  have W8 := Lib.hid (W7.out.below hl W7.out.lt)
  have X8 := Lib.hid (X7.out.below hl X7.out.lt)
  have Y8 := Lib.hid (Y7.out.below hl Y7.out.lt)
  have G8 := Lib.hid (G7.out.below hl G7.out.lt)
  clear hl L7 W7 X7 Y7 G7 
  go_wp2_with fail
  refine (TB.out w8 L8.out).mono ?_
  rintro e w9 ⟨gt, rfl, hb, hg, hl⟩
  have T9 := Lib.hid hb
  have L9 := Lib.hid (L8.out.trans (hl.mono L8.out.size))
  have W9 := Lib.hid (W8.out.below hl W8.out.lt)
  have X9 := Lib.hid (X8.out.below hl X8.out.lt)
  have Y9 := Lib.hid (Y8.out.below hl Y8.out.lt)
  have G9 := Lib.hid (G8.out.below hl G8.out.lt)
  clear hl L8 W8 X8 Y8 G8 hb hg
  go_wp2_with fail
  refine (eqByteS_same _ _ n n n n l w9 (HL.out ▸ (X9.out.sl.wider X9.out.lt)) (HL.out ▸ (T9.out.sl.wider T9.out.lt)) (by omega) (by omega)).mono ?_
  rintro e w10 ⟨rfl, hl⟩
  have L10 := Lib.hid (L9.out.trans (hl.mono L9.out.size))
  have W10 := Lib.hid (W9.out.below hl W9.out.lt)
  have X10 := Lib.hid (X9.out.below hl X9.out.lt)
  have Y10 := Lib.hid (Y9.out.below hl Y9.out.lt)
  have G10 := Lib.hid (G9.out.below hl G9.out.lt)
  clear hl L9 W9 X9 Y9 G9 T9 
  go_wp2_with fail
  refine (TR.out w10 L10.out).mono ?_
  rintro e w11 ⟨gu, rfl, hb, hg, hl⟩
  have U11 := Lib.hid hb
  have L11 := Lib.hid (L10.out.trans (hl.mono L10.out.size))
  have W11 := Lib.hid (W10.out.below hl W10.out.lt)
  have X11 := Lib.hid (X10.out.below hl X10.out.lt)
  have Y11 := Lib.hid (Y10.out.below hl Y10.out.lt)
  have G11 := Lib.hid (G10.out.below hl G10.out.lt)
  clear hl L10 W10 X10 Y10 G10 hb hg
  go_wp2_with fail
  refine (eqRecordS_same _ _ n' n' n' R w11 (bk_sr0 Y11.out HN.out) (bk_sr0 U11.out HN.out) (by omega)).mono ?_
  rintro e w12 ⟨rfl, hl⟩
  have L12 := Lib.hid (L11.out.trans (hl.mono L11.out.size))
  have W12 := Lib.hid (W11.out.below hl W11.out.lt)
  have X12 := Lib.hid (X11.out.below hl X11.out.lt)
  have Y12 := Lib.hid (Y11.out.below hl Y11.out.lt)
  have G12 := Lib.hid (G11.out.below hl G11.out.lt)
  clear hl L11 W11 X11 Y11 G11 U11 
  go_wp2_with fail
  refine (markByteS_one gx n n l [] w12 (by rw [List.append_nil]; exact X12.out) HL.out (by omega)).mono ?_
  rintro e w13 ⟨rfl, _, gr⟩
  have L13 := Lib.hid (L12.out.grown gr L12.out.size (fun j hj => by cases hj; exact GX.out))
  have W13 := Lib.hid (W12.out.grown gr (fun e => NWX.out (Option.some.inj e)))
  have Y13 := Lib.hid (Y12.out.grown gr (fun e => NXY.out (Option.some.inj e).symm))
  have G13 := Lib.hid (G12.out.grown gr (fun e => NXG.out (Option.some.inj e).symm))
  clear gr L12 W12 X12 Y12 G12 
  go_wp2_with fail
  refine (MarkR2.markRecordS_from gy n' n' (1 + n) R [] w13 (by rw [List.append_nil]; exact Y13.out) HN.out (by omega) (by omega) (by omega)).mono ?_
  rintro e w14 ⟨rfl, gr⟩
  have L14 := Lib.hid (L13.out.grown gr L13.out.size (fun j hj => by cases hj; exact GY.out))
  have W14 := Lib.hid (W13.out.grown gr (fun e => NWY.out (Option.some.inj e)))
  have G14 := Lib.hid (G13.out.grown gr (fun e => NYG.out (Option.some.inj e).symm))
  clear gr L13 W13 Y13 G13 
  go_wp2_with fail
  refine (eqByteS_same _ _ mg cg mw cw L w14 (MG.out ▸ (G14.out.sl'.wider G14.out.lt)) (MW.out ▸ (W14.out.sl'.wider W14.out.lt)) (by omega) (by omega)).mono ?_
  rintro e w15 ⟨rfl, hl⟩
  have L15 := Lib.hid (L14.out.trans (hl.mono L14.out.size))
  have W15 := Lib.hid (W14.out.below hl W14.out.lt)
  have G15 := Lib.hid (G14.out.below hl G14.out.lt)
  clear hl L14 W14 G14 
  go_wp2_with fail
  refine (markByteS_one gg mg cg L rg w15 G15.out MG.out (by omega)).mono ?_
  rintro e w16 ⟨rfl, mm, gr⟩
  have M16 := Lib.hid mm
  have L16 := Lib.hid (L15.out.grown gr L15.out.size (fun j hj => by cases hj; exact GG.out))
  have W16 := Lib.hid (W15.out.grown gr (fun e => NWG.out (Option.some.inj e)))
  clear gr L15 W15 G15 mm
  go_wp2_with fail
  refine (heldByteS_one gg mg cg rg w16 M16.out (by omega)).mono ?_
  rintro e w17 ⟨rfl, rfl⟩
  go_wp2_with fail
  refine (TB.out w16 L16.out).mono ?_
  rintro e w17 ⟨gp, rfl, hb, hg, hl⟩
  have P17 := Lib.hid hb
  have L17 := Lib.hid (L16.out.trans (hl.mono L16.out.size))
  have W17 := Lib.hid (W16.out.below hl W16.out.lt)
  have M17 := Lib.hid (M16.out.below hl M16.out.lt)
  clear hl L16 W16 M16 hb hg
  go_wp2_with fail
  refine (TR.out w17 L17.out).mono ?_
  rintro e w18 ⟨gq, rfl, hb, hg, hl⟩
  have Q18 := Lib.hid hb
  have L18 := Lib.hid (L17.out.trans (hl.mono L17.out.size))
  have W18 := Lib.hid (W17.out.below hl W17.out.lt)
  have M18 := Lib.hid (M17.out.below hl M17.out.lt)
  have P18 := Lib.hid (P17.out.below hl P17.out.lt)
  clear hl L17 W17 M17 P17 hb hg
  go_wp2_with fail
  refine (IM.out _ _ w18 L18.out P18.out Q18.out).mono ?_
  rintro e w19 ⟨gh, mh, ch, rh, rfl, hm, hch, hg, hb, hl⟩
  have hmh : mh ≤ 190000000 := by have := HLL.out; omega
  have MH := Lib.hid hm
  have H19 := Lib.hid hb
  have L19 := Lib.hid (L18.out.trans (hl.mono L18.out.size))
  have W19 := Lib.hid (W18.out.below hl W18.out.lt)
  have M19 := Lib.hid (M18.out.below hl M18.out.lt)
  clear hl L18 W18 M18 P18 Q18 hm hg hb
  go_wp2_with fail
  refine (eqByteS_same _ _ mh ch mw cw L w19 (MH.out ▸ (H19.out.sl'.wider H19.out.lt)) (MW.out ▸ (W19.out.sl'.wider W19.out.lt)) (by omega) (by omega)).mono ?_
  rintro e w20 ⟨rfl, hl⟩
  have L20 := Lib.hid (L19.out.trans (hl.mono L19.out.size))
  have M20 := Lib.hid (M19.out.below hl M19.out.lt)
  clear hl L19 W19 M19 H19 
  go_wp2_with fail
  refine (heldByteS_one gg mg cg rg w20 M20.out (by omega)).mono ?_
  rintro e w21 ⟨rfl, rfl⟩
  go_wp2
  go_ret
  exact ⟨rfl, L20.out⟩
end Go.Proofs.YtcpadkehalgddaaGreatDoor.LawPutRecords
