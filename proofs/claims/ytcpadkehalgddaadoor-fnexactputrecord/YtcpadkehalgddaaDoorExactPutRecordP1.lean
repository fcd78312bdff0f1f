/- At every slice of bytes and every record the program's PutRecord answers as its model does, turns no argument, and its answer owns its memory: the law FnExactPutRecord returns true, where the listed tables of the library read as their text lays them (the card ties that to the program's text). -/
import Derived.Test.YtcpadkehalgddaaDoorRecP
import Derived.Test.YtcpadkehalgddaaDoorSzR
import Derived.Test.YtcpadkehalgddaaDoorCopyR
import Derived.Test.YtcpadkehalgddaaDoorEq
import Derived.Test.YtcpadkehalgddaaDoorLabels
import Derived.LaidLaws
import Derived.Test.YtcpadkehalgddaaDoorMemR
import Derived.Deep.Slices
import Derived.Deep.Fields
import Derived.ChangeSame
import Derived.ProofKit
import Derived.OpenShut
import Derived.Test.YtcpadkehalgddaaDoorCards
import Derived.Test.YtcpadkehalgddaaDoorTie
import Derived.ShutString
import Derived.ChangeOld
import Derived.Below
import Derived.Deep.DeepHandedRow
/- The law FnExactPutRecord returns true at every slice of bytes and every record, where the library's variable internal/bytealg.MaxLen holds an int, and turns nothing that was there: PutRecord answers as its model. -/
namespace Go.Proofs.YtcpadkehalgddaaDoor.LawPutRecord
open Go.RowKit Go.Proofs.YtcpadkehalgddaaDoor.Mem Go.Proofs.YtcpadkehalgddaaDoor.MemR Go.Proofs.YtcpadkehalgddaaDoor.Labels Go.Proofs.YtcpadkehalgddaaDoor.RecOk Go.Proofs.YtcpadkehalgddaaDoor.SzR Go.Proofs.YtcpadkehalgddaaDoor.Copy Go.Proofs.YtcpadkehalgddaaDoor.CopyR Go.Proofs.YtcpadkehalgddaaDoor.BoxR Go.Proofs.YtcpadkehalgddaaDoor.Eq Go.Proofs.YtcpadkehalgddaaDoor.FieldMath Go.Proofs.YtcpadkehalgddaaDoor.App Go.Proofs.YtcpadkehalgddaaDoor.DataS Go.Proofs.YtcpadkehalgddaaDoor.RecS

set_option maxRecDepth 100000 in
set_option maxHeartbeats 4000000 in
theorem walk (A : Option Addr) (n c : Nat) (l : List UInt8) (a : Rec) (w : World) (he : Env w) (hs : Sl w w.heap.size A n l) (_hc : n ≤ c) (_hnil : A = none → n = 0 ∧ c = 0) (hz : a.name.size ≤ 9223372036854775807 ∧ a.host.size ≤ 9223372036854775807 ∧ a.text.size ≤ 9223372036854775807) :
    Calls Tryd.prog 6 #[.slice A n c, .agg #[.string a.name, .int .i64 a.ty, .int .i64 a.ttl, .int .i64 a.n, .string a.host, .string a.text]] w fun e w' => e = .returned (.bool true) ∧ Below w.heap.size w w' := by
  have HE := Lib.hid he
  have HS := Lib.hid hs
  have HL := Lib.hid hs.1
  have Z0 := Lib.hid hz
  clear he hz hs _hnil
  have B0 := Lib.hid ((Below.refl w.heap.size w).alloc (Nat.le_refl _) (.cells #[.string a.name, .int .i64 a.ty, .int .i64 a.ttl, .int .i64 a.n, .string a.host, .string a.text] 38))
  have X0 := Lib.hid (bx_new w 38 a)
  by_cases hbig : 1048576 < n
  · have hb' : (1048576 : Int) < (n : Int) := by omega
    go_enter Tryd.func6, Tryd.ntmps6
    go_wp2
    go_ret
    exact ⟨rfl, B0.out⟩
  have hb' : ¬ (1048576 : Int) < (n : Int) := by omega
  go_enter Tryd.func6, Tryd.ntmps6
  go_wp2_with fail
  refine (szRecord_any a 1048576 _ (by omega) (by omega) Z0.out).mono ?_
  rintro e w1 ⟨y, rfl, hy0, hy1, hy, hl⟩
  have YY := Lib.hid hy
  have L1 := Lib.hid (B0.out.trans (hl.mono B0.out.size))
  have X1 := Lib.hid (X0.out.below hl)
  clear hy hl X0 B0
  by_cases hneg : y < 0
  · go_wp2
    go_ret
    exact ⟨rfl, L1.out⟩
  have FA := Lib.hid (show Med a by
    have h := YY.out (by omega)
    unfold rz at h
    exact ⟨by omega, by omega, by omega⟩)
  clear YY
  have HLL : Hid ((l ++ tailR l a).length ≤ n + 173) := by
    show _ ≤ _
    rw [List.length_append, HL.out]
    have := tailR_len l a
    omega
  have TB : Hid (∀ W : World, ((W.cell? ⟨w.heap.size, 0, none⟩ = some (.string a.name) ∧ W.cell? ⟨w.heap.size, 1, none⟩ = some (.int .i64 a.ty) ∧ W.cell? ⟨w.heap.size, 2, none⟩ = some (.int .i64 a.ttl) ∧ W.cell? ⟨w.heap.size, 3, none⟩ = some (.int .i64 a.n) ∧ W.cell? ⟨w.heap.size, 4, none⟩ = some (.string a.host) ∧ W.cell? ⟨w.heap.size, 5, none⟩ = some (.string a.text)) ∧ Sv w W) → Calls Tryd.prog 32 #[.slice A n c] W fun e w' => ∃ g, e = .returned (.slice (some ⟨g, 0, none⟩) n n) ∧ Bk w' g 5 (l.map bv) ∧ W.heap.size ≤ g ∧ Below W.heap.size W w') :=
    fun W hW => (toByteS_any A n c l W ((HS.out.below hW.2).wider hW.2.size) (by omega)).mono fun e w' ⟨h1, h2, h3⟩ => ⟨_, h1, h2, Nat.le_refl _, h3⟩
  have SP : Hid (∀ (g : Nat) (W : World), Bk W g 5 (l.map bv) → Calls Tryd.prog 35 #[.slice (some ⟨g, 0, none⟩) n n, .agg #[.string a.name, .int .i64 a.ty, .int .i64 a.ttl, .int .i64 a.n, .string a.host, .string a.text]] W (Gives W (l ++ tailR l a))) :=
    fun g W hb => (RecS.spec _ n n l a W (HL.out ▸ (hb.sl.wider hb.lt)) (Nat.le_refl _) (fun h => by cases h) (by omega) FA.out).mono fun _ _ h => h.gives
  have IM : Hid (∀ (g : Nat) (W : World), ((W.cell? ⟨w.heap.size, 0, none⟩ = some (.string a.name) ∧ W.cell? ⟨w.heap.size, 1, none⟩ = some (.int .i64 a.ty) ∧ W.cell? ⟨w.heap.size, 2, none⟩ = some (.int .i64 a.ttl) ∧ W.cell? ⟨w.heap.size, 3, none⟩ = some (.int .i64 a.n) ∧ W.cell? ⟨w.heap.size, 4, none⟩ = some (.string a.host) ∧ W.cell? ⟨w.heap.size, 5, none⟩ = some (.string a.text)) ∧ Sv w W) → Bk W g 5 (l.map bv) → Calls Tryd.prog 36 #[.slice (some ⟨g, 0, none⟩) n n, .agg #[.string a.name, .int .i64 a.ty, .int .i64 a.ttl, .int .i64 a.n, .string a.host, .string a.text]] W (Gives W (l ++ tailR l a))) :=
    fun g W hW hb => (RecP.impl _ n n l a W (HE.out.below hW.2) (HL.out ▸ (hb.sl.wider hb.lt)) (Nat.le_refl _) (fun h => by cases h) (by omega) FA.out).mono fun _ _ h => h.gives
  generalize l ++ tailR l a = L at *
  have S0 : ((w1.cell? ⟨w.heap.size, 0, none⟩ = some (.string a.name) ∧ w1.cell? ⟨w.heap.size, 1, none⟩ = some (.int .i64 a.ty) ∧ w1.cell? ⟨w.heap.size, 2, none⟩ = some (.int .i64 a.ttl) ∧ w1.cell? ⟨w.heap.size, 3, none⟩ = some (.int .i64 a.n) ∧ w1.cell? ⟨w.heap.size, 4, none⟩ = some (.string a.host) ∧ w1.cell? ⟨w.heap.size, 5, none⟩ = some (.string a.text)) ∧ Sv w w1) := ⟨X1.out, L1.out⟩
  go_wp2
  go_region_held3 (fun w' => ((w'.cell? ⟨w.heap.size, 0, none⟩ = some (.string a.name) ∧ w'.cell? ⟨w.heap.size, 1, none⟩ = some (.int .i64 a.ty) ∧ w'.cell? ⟨w.heap.size, 2, none⟩ = some (.int .i64 a.ttl) ∧ w'.cell? ⟨w.heap.size, 3, none⟩ = some (.int .i64 a.n) ∧ w'.cell? ⟨w.heap.size, 4, none⟩ = some (.string a.host) ∧ w'.cell? ⟨w.heap.size, 5, none⟩ = some (.string a.text)) ∧ Sv w w'))
    (first | exact S0 | assumption | exact kept6 (by assumption) hl | exact kept6_draw (by assumption) | fail)
    (first
      | (go_at_call 32; refine (TB.out _ (by assumption)).mono ?_; rintro e w11 ⟨g1, rfl, hb1, hg1, hl⟩)
      | (go_at_call 26; refine (toRecord_any a _).mono ?_; rintro e w12 ⟨rfl, hl⟩; have hb2 := hb1.below hl hb1.lt)
      | (go_at_call 35; refine (SP.out _ _ hb2).mono ?_; rintro e w2 ⟨gw, mw, cw, rw, rfl, hm, hc, hg, hb, hl⟩)
      | fail)
  rename_i hH
  have hmw : mw ≤ 1048749 := by have := HLL.out; omega
  have MW := Lib.hid hm
  have W2 := Lib.hid hb
  have X2 : Hid (Bx w2 w.heap.size a) := hH.1
  have L2 : Hid (Below w.heap.size w w2) := hH.2
  clear hm hc hg hb hl hH hb1 hb2 hg1 S0 X1 L1
  go_wp2_with fail
  refine (TB.out w2 ⟨X2.out, L2.out⟩).mono ?_
  rintro e w3 ⟨gx, rfl, b3, hgx, l3⟩
  have X3 := Lib.hid b3
  have W3 := Lib.hid (W2.out.below l3 W2.out.lt)
  have R3 := Lib.hid (X2.out.below l3)
  have GX := Lib.hid (show gw ≠ gx from fun e => by have := W2.out.lt; omega)
  have GR := Lib.hid (show w.heap.size ≠ gx from fun e => by have := X2.out.lt; omega)
  have GX2 := Lib.hid (Nat.le_trans L2.out.size hgx)
  have L3 := Lib.hid (L2.out.trans (l3.mono L2.out.size))
  clear b3 l3 hgx L2 W2 X2
  obtain ⟨x0, x1, x2, x3, x4, x5⟩ := R3.out
  go_wp2_with fail
  refine (toRecord_any a w3).mono ?_
  rintro e w4 ⟨rfl, hl⟩
  have X4 := Lib.hid (X3.out.below hl X3.out.lt)
  have W4 := Lib.hid (W3.out.below hl W3.out.lt)
  have R4 := Lib.hid (R3.out.below hl)
  have L4 := Lib.hid (L3.out.trans (hl.mono L3.out.size))
  clear hl x0 x1 x2 x3 x4 x5 X3 W3 R3 L3
  go_wp2_with fail
  refine (IM.out _ w4 ⟨R4.out, L4.out⟩ X4.out).mono ?_
  rintro e w5 ⟨gg, mg, cg, rg, rfl, hm, hcg, hg, hb, hl⟩
  have hmg : mg ≤ 1048749 := by have := HLL.out; omega
  have MG := Lib.hid hm
  have G5 := Lib.hid hb
  have X5 := Lib.hid (X4.out.below hl X4.out.lt)
  have W5 := Lib.hid (W4.out.below hl W4.out.lt)
  have R5 := Lib.hid (R4.out.below hl)
  have NX := Lib.hid (show gx ≠ gg from fun e => by have := X4.out.lt; omega)
  have NW := Lib.hid (show gw ≠ gg from fun e => by have := W4.out.lt; omega)
  have NR := Lib.hid (show w.heap.size ≠ gg from fun e => by have := R4.out.lt; omega)
  have GG := Lib.hid (Nat.le_trans L4.out.size hg)
  have L5 := Lib.hid (L4.out.trans (hl.mono L4.out.size))
  clear hm hg hb hl L4 X4 W4 R4
  go_wp2_with fail
  refine (eqByteS_same _ _ mg cg mw cw L w5 (MG.out ▸ (G5.out.sl'.wider G5.out.lt)) (MW.out ▸ (W5.out.sl'.wider W5.out.lt)) (by omega) (by omega)).mono ?_
  rintro e w6 ⟨rfl, hl⟩
  have G6 := Lib.hid (G5.out.below hl G5.out.lt)
  have X6 := Lib.hid (X5.out.below hl X5.out.lt)
  have W6 := Lib.hid (W5.out.below hl W5.out.lt)
  have R6 := Lib.hid (R5.out.below hl)
  have L6 := Lib.hid (L5.out.trans (hl.mono L5.out.size))
  clear hl G5 X5 W5 R5 L5 
  go_wp2_with fail
  refine (TB.out w6 ⟨R6.out, L6.out⟩).mono ?_
  rintro e w7 ⟨gt, rfl, hb, hgt, hl⟩
  have T7 := Lib.hid hb
  have G7 := Lib.hid (G6.out.below hl G6.out.lt)
  have X7 := Lib.hid (X6.out.below hl X6.out.lt)
  have W7 := Lib.hid (W6.out.below hl W6.out.lt)
  have R7 := Lib.hid (R6.out.below hl)
  have L7 := Lib.hid (L6.out.trans (hl.mono L6.out.size))
  clear hl G6 X6 W6 R6 L6 hb hgt
  go_wp2_with fail
  refine (eqByteS_same _ _ n n n n l w7 (HL.out ▸ (X7.out.sl.wider X7.out.lt)) (HL.out ▸ (T7.out.sl.wider T7.out.lt)) (by omega) (by omega)).mono ?_
  rintro e w8 ⟨rfl, hl⟩
  have G8 := Lib.hid (G7.out.below hl G7.out.lt)
  have X8 := Lib.hid (X7.out.below hl X7.out.lt)
  have W8 := Lib.hid (W7.out.below hl W7.out.lt)
  have R8 := Lib.hid (R7.out.below hl)
  have L8 := Lib.hid (L7.out.trans (hl.mono L7.out.size))
  clear hl G7 X7 W7 R7 L7 T7 
  go_wp2_with fail
  refine (markByteS_one gx n n l [] w8 (by rw [List.append_nil]; exact X8.out) HL.out (by omega)).mono ?_
  rintro e w9 ⟨rfl, _, g9⟩
  have G9 := Lib.hid (G8.out.grown g9 (fun e => NX.out (Option.some.inj e).symm))
  have W9 := Lib.hid (W8.out.grown g9 (fun e => GX.out (Option.some.inj e)))
  have R9 := Lib.hid (R8.out.grown g9 (fun e => GR.out (Option.some.inj e)))
  have L9 := Lib.hid (L8.out.grown g9 L8.out.size (fun j hj => by cases hj; exact GX2.out))
  clear g9 L8 G8 X8 W8 R8
  go_wp2_with fail
  refine (eqByteS_same _ _ mg cg mw cw L w9 (MG.out ▸ (G9.out.sl'.wider G9.out.lt)) (MW.out ▸ (W9.out.sl'.wider W9.out.lt)) (by omega) (by omega)).mono ?_
  rintro e w10 ⟨rfl, hl⟩
  have G10 := Lib.hid (G9.out.below hl G9.out.lt)
  have W10 := Lib.hid (W9.out.below hl W9.out.lt)
  have R10 := Lib.hid (R9.out.below hl)
  have L10 := Lib.hid (L9.out.trans (hl.mono L9.out.size))
  clear hl G9 W9 R9 L9 
  go_wp2_with fail
  refine (markByteS_one gg mg cg L rg w10 G10.out MG.out (by omega)).mono ?_
  rintro e w11 ⟨rfl, m11, g11⟩
  have M11 := Lib.hid m11
  have W11 := Lib.hid (W10.out.grown g11 (fun e => NW.out (Option.some.inj e)))
  have R11 := Lib.hid (R10.out.grown g11 (fun e => NR.out (Option.some.inj e)))
  have L11 := Lib.hid (L10.out.grown g11 L10.out.size (fun j hj => by cases hj; exact GG.out))
  clear m11 g11 L10 G10 W10 R10
  go_wp2_with fail
  refine (heldByteS_one gg mg cg rg w11 M11.out (by omega)).mono ?_
  rintro e w12 ⟨rfl, rfl⟩
  have TB2 : Hid (∀ W : World, ((W.cell? ⟨w.heap.size, 0, none⟩ = some (.string a.name) ∧ W.cell? ⟨w.heap.size, 1, none⟩ = some (.int .i64 a.ty) ∧ W.cell? ⟨w.heap.size, 2, none⟩ = some (.int .i64 a.ttl) ∧ W.cell? ⟨w.heap.size, 3, none⟩ = some (.int .i64 a.n) ∧ W.cell? ⟨w.heap.size, 4, none⟩ = some (.string a.host) ∧ W.cell? ⟨w.heap.size, 5, none⟩ = some (.string a.text)) ∧ Sv w11 W) → Calls Tryd.prog 32 #[.slice A n c] W fun e w' => ∃ g, e = .returned (.slice (some ⟨g, 0, none⟩) n n) ∧ Bk w' g 5 (l.map bv) ∧ W.heap.size ≤ g ∧ Below W.heap.size W w') :=
    fun W hW => TB.out W ⟨hW.1, L11.out.trans (hW.2.mono L11.out.size)⟩
  have IM2 : Hid (∀ (g : Nat) (W : World), ((W.cell? ⟨w.heap.size, 0, none⟩ = some (.string a.name) ∧ W.cell? ⟨w.heap.size, 1, none⟩ = some (.int .i64 a.ty) ∧ W.cell? ⟨w.heap.size, 2, none⟩ = some (.int .i64 a.ttl) ∧ W.cell? ⟨w.heap.size, 3, none⟩ = some (.int .i64 a.n) ∧ W.cell? ⟨w.heap.size, 4, none⟩ = some (.string a.host) ∧ W.cell? ⟨w.heap.size, 5, none⟩ = some (.string a.text)) ∧ Sv w11 W) → Bk W g 5 (l.map bv) → Calls Tryd.prog 36 #[.slice (some ⟨g, 0, none⟩) n n, .agg #[.string a.name, .int .i64 a.ty, .int .i64 a.ttl, .int .i64 a.n, .string a.host, .string a.text]] W (Gives W L)) :=
    fun g W hW hb => IM.out g W ⟨hW.1, L11.out.trans (hW.2.mono L11.out.size)⟩ hb
  have S0 : ((w11.cell? ⟨w.heap.size, 0, none⟩ = some (.string a.name) ∧ w11.cell? ⟨w.heap.size, 1, none⟩ = some (.int .i64 a.ty) ∧ w11.cell? ⟨w.heap.size, 2, none⟩ = some (.int .i64 a.ttl) ∧ w11.cell? ⟨w.heap.size, 3, none⟩ = some (.int .i64 a.n) ∧ w11.cell? ⟨w.heap.size, 4, none⟩ = some (.string a.host) ∧ w11.cell? ⟨w.heap.size, 5, none⟩ = some (.string a.text)) ∧ Sv w11 w11) := ⟨R11.out, Below.refl _ _⟩
  go_wp2
  go_region_held3 (fun w' => ((w'.cell? ⟨w.heap.size, 0, none⟩ = some (.string a.name) ∧ w'.cell? ⟨w.heap.size, 1, none⟩ = some (.int .i64 a.ty) ∧ w'.cell? ⟨w.heap.size, 2, none⟩ = some (.int .i64 a.ttl) ∧ w'.cell? ⟨w.heap.size, 3, none⟩ = some (.int .i64 a.n) ∧ w'.cell? ⟨w.heap.size, 4, none⟩ = some (.string a.host) ∧ w'.cell? ⟨w.heap.size, 5, none⟩ = some (.string a.text)) ∧ Sv w11 w'))
    (first | exact S0 | assumption | exact kept6 (by assumption) hl | exact kept6_draw (by assumption) | fail)
    (first
      | (go_at_call 32; refine (TB2.out _ (by assumption)).mono ?_; rintro e w21 ⟨g1, rfl, hb1, hg1, hl⟩)
      | (go_at_call 26; refine (toRecord_any a _).mono ?_; rintro e w22 ⟨rfl, hl⟩; have hb2 := hb1.below hl hb1.lt)
      | (go_at_call 36; refine (IM2.out _ _ (by assumption) hb2).mono ?_; rintro e w12 ⟨gh, mh, ch, rh, rfl, hm, hc, hg, hb, hl⟩)
      | fail)
  rename_i hH
  have hmh : mh ≤ 1048749 := by have := HLL.out; omega
  have MH := Lib.hid hm
  have H12 := Lib.hid hb
  have M12 := Lib.hid (M11.out.below hH.2 M11.out.lt)
  have W12 := Lib.hid (W11.out.below hH.2 W11.out.lt)
  have L12 := Lib.hid (L11.out.trans (hH.2.mono L11.out.size))
  clear hm hc hg hb hl hH hb1 hb2 hg1 S0 M11 W11 L11 R11 TB2 IM2
  go_wp2_with fail
  refine (eqByteS_same _ _ mh ch mw cw L w12 (MH.out ▸ (H12.out.sl'.wider H12.out.lt)) (MW.out ▸ (W12.out.sl'.wider W12.out.lt)) (by omega) (by omega)).mono ?_
  rintro e w13 ⟨rfl, hl⟩
  have M13 := Lib.hid (M12.out.below hl M12.out.lt)
  have L13 := Lib.hid (L12.out.trans (hl.mono L12.out.size))
  clear hl L12 M12 W12 H12
  go_wp2_with fail
  refine (heldByteS_one gg mg cg rg w13 M13.out (by omega)).mono ?_
  rintro e w14 ⟨rfl, rfl⟩
  go_wp2
  go_ret
  exact ⟨rfl, L13.out⟩
end Go.Proofs.YtcpadkehalgddaaDoor.LawPutRecord

/- What the world's shape gives the walks of this seat, and one world in which the listed tables of unicode/utf8 read as their text lays them. -/
namespace Go.Proofs.YtcpadkehalgddaaDoor.LaidU
open Go.RowKit Go.Proofs.YtcpadkehalgddaaDoor.Labels

theorem env {W : World} (h : W.ShapedOpen Tryd.prog) : Env W := Tryd.laysM146.s1_3 W h

def acc : List Int := [128, 191, 160, 191, 128, 159, 144, 191, 128, 143, 0, 0, 0, 0, 0, 0, 0, 0, 0, 0, 0, 0, 0, 0, 0, 0, 0, 0, 0, 0, 0, 0]
theorem gFirst : Tryd.prog.globalNamed "unicode/utf8.first" = some 2 := by kernel_rfl
theorem gAcc : Tryd.prog.globalNamed "unicode/utf8.acceptRanges" = some 3 := by kernel_rfl
/-- A block of cells, with other cells in it. -/
def put (cs : Array Value) : Obj → Obj
  | .cells _ t frozen => .cells cs t frozen
  | o => o
/-- The settled world, the two tables holding what their text lays. -/
noncomputable def laidWorld (os : Os) : World :=
  { World.holding Tryd.prog os ⟨#[], #[], []⟩ with heap := ((World.holding Tryd.prog os ⟨#[], #[], []⟩).heap.modify 2 (put (Go.Pinned.utf8FirstZ.map (fun n : Nat => Value.int .u8 (n : Int))).toArray)).modify 3 (put (acc.map (Value.int .u8)).toArray) }
def two : List (String × DataW Unit) := [("unicode/utf8.acceptRanges", Rows.laid_unicode_utf8_acceptRanges), ("unicode/utf8.first", Rows.laid_unicode_utf8_first)]
theorem laid_met (os : Os) (args : Array Value) : laidMet Tryd.prog two ((laidWorld os).forCall (fun _ _ => 0) ⟨#[], args, []⟩).memory :=
  laidMet_of_run' 8 (by kernel_rfl) (by kernel_rfl)
end Go.Proofs.YtcpadkehalgddaaDoor.LaidU

/- What a record that comes in, and a slice of records that comes in, read as. -/
namespace Go.Proofs.YtcpadkehalgddaaDoor.RowR
open Go.Proofs.YtcpadkehalgddaaDoor.Mem Go.Proofs.YtcpadkehalgddaaDoor.MemR
open Go.ChangeShapes Go.WideShapes Go.ChangeAt Go.RowKit Go.Deep

/-- The texts of a record are no longer than any text. -/
def Small (r : Rec) : Prop := r.name.size ≤ 9223372036854775807 ∧ r.host.size ≤ 9223372036854775807 ∧ r.text.size ≤ 9223372036854775807
/-- The argument reads as records. -/
def IsRecs (w : World) (a : Option Addr) (len : Nat) (l : List Rec) : Prop :=
  Sr w w.heap.size a len l ∧ len ≤ 9223372036854775807 ∧ ∀ r ∈ l, Small r

section
variable {H : Type} {enc : TypeId × Value → H} {w : World} {base : Nat} {spare : Nat → Bool} {held : Bool}
theorem six_of {cs : List Value} {s0 s4 s5 : ByteArray} {x1 x2 x3 : Int} (h : cs.length = 6) (e0 : (cs.drop 0).take 1 = [.string s0]) (e1 : (cs.drop 1).take 1 = [.int .i64 x1]) (e2 : (cs.drop 2).take 1 = [.int .i64 x2])
    (e3 : (cs.drop 3).take 1 = [.int .i64 x3]) (e4 : (cs.drop 4).take 1 = [.string s4]) (e5 : (cs.drop 5).take 1 = [.string s5]) : cs = rc ⟨s0, x1, x2, x3, s4, s5⟩ := by
  match cs, h with
  | [c0, c1, c2, c3, c4, c5], _ =>
    simp only [List.drop_zero, List.drop_succ_cons, List.take_succ_cons, List.take_zero, List.cons.injEq, and_true] at e0 e1 e2 e3 e4 e5
    subst e0 e1 e2 e3 e4 e5
    rfl
theorem rec_of {fuel : Nat} {cs : List Value} {x : DataW H × List MemPlace} (h : DataW.trod enc Tryd.prog w base spare held fuel 38 cs = some x) : ∃ r : Rec, cs = rc r ∧ Small r := by
  obtain ⟨xs, n, _, _, hc, hl, hg⟩ := DataW.trod_struct Tryd.underlying38 h
  have h6 : cs.length = 6 := hc.trans (by kernel_rfl)
  have hx : xs.length = 6 := hl
  have ks : Tryd.prog.cellsOf 9 = 1 := by kernel_rfl
  have ki : Tryd.prog.cellsOf 3 = 1 := by kernel_rfl
  have g : ∀ i, i < 6 → xs[i]? = some (xs[i]!) := fun i hi => by rw [getElem!_pos xs i (by omega)]; exact List.getElem?_eq_getElem (by omega)
  have f0 := (hg 0 _ rfl).trans (g 0 (by omega))
  have f1 := (hg 1 _ rfl).trans (g 1 (by omega))
  have f2 := (hg 2 _ rfl).trans (g 2 (by omega))
  have f3 := (hg 3 _ rfl).trans (g 3 (by omega))
  have f4 := (hg 4 _ rfl).trans (g 4 (by omega))
  have f5 := (hg 5 _ rfl).trans (g 5 (by omega))
  obtain ⟨s0, e0, _, z0⟩ := DataW.trod_string Tryd.underlying9 f0
  obtain ⟨x1, e1, _⟩ := DataW.trod_int Tryd.underlying3 f1
  obtain ⟨x2, e2, _⟩ := DataW.trod_int Tryd.underlying3 f2
  obtain ⟨x3, e3, _⟩ := DataW.trod_int Tryd.underlying3 f3
  obtain ⟨s4, e4, _, z4⟩ := DataW.trod_string Tryd.underlying9 f4
  obtain ⟨s5, e5, _, z5⟩ := DataW.trod_string Tryd.underlying9 f5
  replace e0 : (cs.drop 0).take (Tryd.prog.cellsOf 9) = [.string s0] := e0
  replace e1 : (cs.drop 1).take (Tryd.prog.cellsOf 3) = [.int .i64 x1] := e1
  replace e2 : (cs.drop 2).take (Tryd.prog.cellsOf 3) = [.int .i64 x2] := e2
  replace e3 : (cs.drop 3).take (Tryd.prog.cellsOf 3) = [.int .i64 x3] := e3
  replace e4 : (cs.drop 4).take (Tryd.prog.cellsOf 9) = [.string s4] := e4
  replace e5 : (cs.drop 5).take (Tryd.prog.cellsOf 9) = [.string s5] := e5
  rw [ks] at e0 e4 e5
  rw [ki] at e1 e2 e3
  unfold maxLen at z0 z4 z5
  exact ⟨⟨s0, x1, x2, x3, s4, s5⟩, six_of h6 e0 e1 e2 e3 e4 e5, z0, z4, z5⟩
set_option maxRecDepth 100000 in
/-- A record that comes in. -/
theorem rec_in {r : Reach} {b0 : Nat} {v : Value} {d : DataW H} {p : List MemPlace} (hv : Value.okWide Tryd.prog w r b0 38 v) (h : DataW.Trod enc Tryd.prog w base spare held 38 v d p) :
    ∃ r : Rec, v = .agg #[.string r.name, .int .i64 r.ty, .int .i64 r.ttl, .int .i64 r.n, .string r.host, .string r.text] ∧ Small r := by
  obtain ⟨cs, rfl, _⟩ := okWide_struct Tryd.underlying38 hv
  obtain ⟨fuel, hf⟩ := h
  obtain ⟨r, hr, hz⟩ := rec_of hf
  refine ⟨r, ?_, hz⟩
  have e : cs.toList = rc r := hr
  rw [show cs = (rc r).toArray from by rw [← e]]
  rfl
end

section
variable {H : Type} {enc : TypeId × Value → H} {w : World}

end
end Go.Proofs.YtcpadkehalgddaaDoor.RowR

/- At every slice of bytes and every record the program's PutRecord answers as its model does, turns no argument, and its answer owns its memory: the law FnExactPutRecord returns true, where the listed tables of the library read as their text lays them (the card ties that to the program's text). -/
namespace Go.Proofs.YtcpadkehalgddaaDoor.exactPutRecordCard
open Go.ChangeShapes Go.WideShapes Go.ChangeAt Go.RowKit Go.Proofs.YtcpadkehalgddaaDoor.LaidU Go.Proofs.YtcpadkehalgddaaDoor.Mem Go.Proofs.YtcpadkehalgddaaDoor.RowR

theorem own : ownKnob Tryd.prog.godebug = none := by kernel_rfl
theorem laidOut : laidOutB Tryd.prog = true := by kernel_rfl

set_option maxRecDepth 100000 in
theorem contract (H : Type) (enc : TypeId × Value → H) (W : World) (base : Nat) (args : Array Value) (ds gs : List (DataW H)) (before : List MemPlace)
    (hval0 : ∀ (j : Nat) t v, Tryd.f6.params[j]? = some t → args[j]? = some v → Value.okWide Tryd.prog W .any base t v)
    (hW : DataW.Whole enc Tryd.prog Tryd.f6.params.toList Rows.fnExactPutRecordSpec.vars false W args.toList ds gs before) (hsh : W.ShapedOpen Tryd.prog) :
    Calls Tryd.prog 6 args W fun e W' => ∃ v, e = .returned v ∧ Rows.fnExactPutRecordSpec.post enc Tryd.prog Tryd.f6 false true false false W args v W' := by
  have hval : ∀ (j : Nat) t v, Tryd.f6.params[j]? = some t → args[j]? = some v → Value.okWide Tryd.prog W .any base t v := hval0
  have hW' := hW
  obtain ⟨p, q, hA0, hV, rfl, _, _⟩ := hW
  have hA : DataW.TrodAll enc Tryd.prog W 0 (fun _ => true) true Tryd.f6.params.toList args.toList ds p := hA0
  rw [Tryd.params6] at hA hval
  obtain ⟨v0, vs0, d0, ds0, p0, q0, _, rfl, rfl, h0, r0⟩ := trodAll_cons hA
  obtain ⟨v1, vs1, d1, ds1, p1, q1, _, rfl, rfl, h1, r1⟩ := trodAll_cons r0
  obtain ⟨rfl, rfl, rfl⟩ := trodAll_nil r1
  obtain rfl : args = #[v0, v1] := by cases args; simp_all
  obtain ⟨rfl, rfl⟩ := trodVars_none hV
  obtain ⟨a0, len0, cap0, rfl⟩ := okWide_slice Tryd.underlying22 (hval 0 22 v0 rfl rfl)
  have k0 := h0
  have lt0 : ∀ x ∈ p0, x.block < W.heap.size := by obtain ⟨m, hm⟩ := k0; exact DataW.trod_lt m _ _ _ hm
  obtain ⟨l0, s0, c0, z0⟩ : ∃ l : List UInt8, Sl W W.heap.size a0 len0 l ∧ len0 ≤ cap0 ∧ (a0 = none → len0 = 0 ∧ cap0 = 0) := by
    obtain ⟨fuel, hf⟩ := h0
    rcases open_ints Tryd.underlying22 Tryd.underlying5 (by kernel_rfl) hf with ⟨hcs, _⟩ | ⟨x, l, c, zs, hcs, _, hl, hm, hz, _, hcell, hwz⟩
    · simp [Value.cells] at hcs
      obtain ⟨rfl, rfl, rfl⟩ := hcs
      exact sl_of_row (zs := []) (.inl ⟨rfl, rfl, rfl, rfl⟩)
    · simp [Value.cells] at hcs
      obtain ⟨rfl, rfl, rfl⟩ := hcs
      exact sl_of_row (zs := zs) (.inr ⟨_, rfl, hl, hm, by simpa using hz, hcell, hwz⟩)
  have k1 := h1
  have lt1 : ∀ x ∈ p1, x.block < W.heap.size := by obtain ⟨m, hm⟩ := k1; exact DataW.trod_lt m _ _ _ hm
  obtain ⟨x1, rfl, z1⟩ := rec_in (hval 1 38 v1 rfl rfl) h1
  clear hA0 hval0
  refine (LawPutRecord.walk a0 len0 cap0 l0 x1 W (env hsh) s0 c0 z0 z1).mono fun e W' ⟨he, bel⟩ => ?_
  subst he
  exact ⟨_, rfl, _, _, _, [], _, [], hW', trodAll_mk1 (shut_bool Tryd.underlying4 _), (trodAll_cons_mk (Below.trod laidOut (by kernel_rfl) (of_decide_eq_true (by kernel_rfl)) k0 bel lt0) (trodAll_cons_mk (Below.trod laidOut (by kernel_rfl) (of_decide_eq_true (by kernel_rfl)) k1 bel lt1) trodAll_mk0)), rfl, bel.frame _, fun h => by cases h⟩

theorem reads (os : Os) {H : Type} (enc : TypeId × Value → H) : ∃ places, DataW.whole enc Tryd.prog ((laidWorld os).forCall (fun _ _ => 0) ⟨#[], #[.slice none 0 0, .agg #[.string ⟨#[]⟩, .int .i64 0, .int .i64 0, .int .i64 0, .string ⟨#[]⟩, .string ⟨#[]⟩]], []⟩).memory Tryd.f6.params.toList Rows.fnExactPutRecordSpec.vars false #[Value.slice none 0 0, Value.agg #[.string ⟨#[]⟩, .int .i64 0, .int .i64 0, .int .i64 0, .string ⟨#[]⟩, .string ⟨#[]⟩]].toList 8 = some ([.nil, .agg [.lit (.string []), .lit (.int .i64 0), .lit (.int .i64 0), .lit (.int .i64 0), .lit (.string []), .lit (.string [])]], [], places) :=
  ⟨[], by kernel_rfl⟩

set_option maxRecDepth 100000 in
theorem lifted (os : Os) (started : os.Started) (H : Type) (enc : TypeId × Value → H) (F : Stop.Interp) :
    ReturnsInHanded {} Tryd.checked os 6 .any ((OpenSpec.ofChange Rows.fnExactPutRecordSpec).preRow enc Tryd.prog Tryd.f6 Rows.fnExactPutRecordRow.domain false Rows.fnExactPutRecordRow.laid) (((OpenSpec.ofChange Rows.fnExactPutRecordSpec).at F).post enc Tryd.prog Tryd.f6 false true false false) := by
  obtain ⟨places, hx⟩ := reads os enc
  refine returnsInHanded_of_row (C := Tryd.checked) (s := OpenSpec.ofChange Rows.fnExactPutRecordSpec) own started (by kernel_rfl) Tryd.func6
    (witness_row_at (enc := enc) (C := Tryd.checked) false (laidWorld os) #[.slice none 0 0, .agg #[.string ⟨#[]⟩, .int .i64 0, .int .i64 0, .int .i64 0, .string ⟨#[]⟩, .string ⟨#[]⟩]] rfl (by kernel_rfl) (by kernel_rfl) (by kernel_rfl)
      (OpenSpec.preRow_of_cond 8 hx (by kernel_rfl) (fun k hk => by cases hk) (by kernel_rfl) (laid_met os _))) ?_
  intro W base args ds gs before hval hW _ _ _ _ hsh _
  exact contract H enc W base args ds gs before hval hW hsh

theorem said : Rows.FnExactPutRecordSaid :=
  OpenClaim.holds_of_cond 6 Tryd.f6 rfl rfl rfl rfl rfl rfl rfl ⟨rfl, rfl, rfl, rfl, rfl⟩ rfl rfl rfl rfl rfl (by kernel_rfl) Tryd.func6 (by kernel_rfl)
    (of_decide_eq_true (by kernel_rfl)) (by unfold Func.isWrapper; first | (rw [if_pos (by decide +kernel)]; kernel_rfl) | (rw [if_neg (by decide +kernel)]; exact ⟨rfl, rfl⟩))
    (fun os started H enc _ F => by rw [OpenClaim.pre_eq_preRow]; exact lifted os started H enc F)

theorem plain (f : FuncId) (fn : Func) (hf : Tryd.pinned.checked.prog.funcNamed "loop.example/g00497/laws.FnExactPutRecord" = some f) (hfn : Tryd.pinned.checked.prog.funcs[f]? = some fn) :
    true = Tryd.pinned.checked.prog.looks [] ∧ ∀ (j : Nat) t, fn.params[j]? = some t → Tryd.pinned.checked.prog.wantsStandIn t = false := by
  obtain rfl : f = 6 := Option.some.inj ((show Tryd.prog.funcNamed "loop.example/g00497/laws.FnExactPutRecord" = some 6 by kernel_rfl).symm.trans hf) |>.symm
  obtain rfl : fn = Tryd.f6 := (Option.some.inj (Tryd.func6.symm.trans hfn)).symm
  refine ⟨by kernel_rfl, fun j t ht => ?_⟩
  rw [Tryd.params6] at ht
  have hm : t = 22 ∨ t = 38 := by simpa using Array.mem_of_getElem? ht
  rcases hm with rfl | rfl
  · exact (show Tryd.prog.wantsStandIn 22 = false by kernel_rfl)
  · exact (show Tryd.prog.wantsStandIn 38 = false by kernel_rfl)

theorem card : Rows.FnExactPutRecordCardSaid :=
  Claim7.holds_tied_plain_at .later [] _ _ _ _ said (fun _ h => by cases h) (by kernel_rfl) (fun _ h => by cases h) fnExactPutRecord_row_tie rfl ⟨rfl, rfl⟩ (by kernel_rfl) rfl plain (by kernel_rfl)
end Go.Proofs.YtcpadkehalgddaaDoor.exactPutRecordCard
namespace Go.Proofs.YtcpadkehalgddaaDoor
theorem fnExactPutRecord_holds : Rows.FnExactPutRecordCardSaid := exactPutRecordCard.card
end Go.Proofs.YtcpadkehalgddaaDoor
