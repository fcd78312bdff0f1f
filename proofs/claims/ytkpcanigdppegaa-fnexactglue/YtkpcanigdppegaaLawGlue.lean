/- The law FnExactGlue returns true at every zone and every slice of texts, and turns nothing that was there: Glue answers as its model, and its answer owns its memory. -/
import Derived.Test.YtkpcanigdppegaaSzZ
import Derived.Test.YtkpcanigdppegaaToZ
import Derived.Test.YtkpcanigdppegaaEqZ
import Derived.Test.YtkpcanigdppegaaGlueS
import Derived.Test.YtkpcanigdppegaaGlueI
import Derived.Test.YtkpcanigdppegaaEqR
import Derived.Test.YtkpcanigdppegaaMarkR
import Derived.Test.YtkpcanigdppegaaMarkZ
import Derived.Test.YtkpcanigdppegaaSzS2
import Derived.Test.YtkpcanigdppegaaCopyS
import Derived.Test.YtkpcanigdppegaaEqS
import Derived.Test.YtkpcanigdppegaaMarkS2
import Derived.Deep.RegionHeld3
namespace Go.Proofs.Ytkpcanigdppegaa.LawGlue
open Go.RowKit Go.Proofs.Ytkpcanigdppegaa.Mem Go.Proofs.Ytkpcanigdppegaa.MemR Go.Proofs.Ytkpcanigdppegaa.MemS Go.Proofs.Ytkpcanigdppegaa.MemZ Go.Proofs.Ytkpcanigdppegaa.SzZ Go.Proofs.Ytkpcanigdppegaa.ToZ Go.Proofs.Ytkpcanigdppegaa.EqZ Go.Proofs.Ytkpcanigdppegaa.EqR Go.Proofs.Ytkpcanigdppegaa.EqS Go.Proofs.Ytkpcanigdppegaa.MarkR Go.Proofs.Ytkpcanigdppegaa.MarkS Go.Proofs.Ytkpcanigdppegaa.MarkS2 Go.Proofs.Ytkpcanigdppegaa.MarkZ Go.Proofs.Ytkpcanigdppegaa.SetMath Go.Proofs.Ytkpcanigdppegaa.NameMath Go.Proofs.Ytkpcanigdppegaa.ZoneMath

set_option maxHeartbeats 8000000 in
theorem walk (z : ByteArray) (A : Option Addr) (n c : Nat) (l : List Rec) (A2 : Option Addr) (n2 c2 : Nat) (H : List ByteArray) (w : World) (hzs : z.size ≤ 9223372036854775807) (hs : Sr w w.heap.size A n l) (hn : n ≤ 9223372036854775807) (hz : ∀ r ∈ l, r.name.size ≤ 9223372036854775807 ∧ r.host.size ≤ 9223372036854775807 ∧ r.text.size ≤ 9223372036854775807)
    (ht : Ss w w.heap.size A2 n2 H) (hn2 : n2 ≤ 9223372036854775807) (hz2 : ∀ s ∈ H, s.size ≤ 9223372036854775807) :
    Calls Try.prog 7 #[.agg #[.string z, .slice A n c], .slice A2 n2 c2] w fun e w' => e = .returned (.bool true) ∧ Below w.heap.size w w' := by
  have S0 := Lib.hid hs
  have Z0 := Lib.hid hz
  have T0 := Lib.hid ht
  have ZT := Lib.hid hz2
  clear hs hz ht hz2
  have L0 := Lib.hid ((Below.refl w.heap.size w).alloc (Nat.le_refl _) (.cells #[.string z, .slice A n c] 24))
  have J0 := Lib.hid (zx_new w 24 z (.slice A n c))
  go_enter Try.func7, Try.ntmps7
  obtain ⟨x0, x1⟩ := J0.out
  go_wp2_with fail
  refine (szZone_any z A n c l 1048576 _ (by omega) (by omega) hzs (S0.out.on L0.out) hn Z0.out).mono ?_
  rintro e w1 ⟨y, rfl, hy0, hy1, hy, hl⟩
  have Y0 := Lib.hid hy
  have L1 := Lib.hid (L0.out.trans (hl.mono L0.out.size))
  have J1 := Lib.hid (J0.out.below hl)
  clear hy hl L0 J0 x0 x1
  by_cases hneg : y < 0
  · go_wp2
    go_ret
    exact ⟨rfl, L1.out⟩
  have Y1 := Lib.hid (Y0.out (by omega))
  clear Y0
  have bm : n ≤ 1048576 := by have := Y1.out; have := S0.out.1; omega
  have bn : n ≤ 400000000 := by omega
  have HN : Hid (l.length = n) := S0.out.1
  have HNH : Hid (H.length = n2) := T0.out.1
  clear Y1 Z0
  go_wp2_with fail
  refine (SzS2.szStringS_from y (by omega) (by omega) A2 n2 c2 H w1 w.heap.size (T0.out.below L1.out) hn2 ZT.out).mono ?_
  rintro e w1' ⟨y2, rfl, hy2, rfl⟩
  have Y2 := Lib.hid hy2
  clear hy2
  by_cases hneg2 : y2 < 0
  · go_wp2
    go_ret
    exact ⟨rfl, L1.out⟩
  have Y3 := Lib.hid (Y2.out (by omega))
  clear Y2 ZT
  have bm2 : n2 ≤ 1048576 := by have := Y3.out; have := HNH.out; omega
  clear Y3
  have hk0 : ¬ (1 : Int) + 6 * (n : Int) + (n2 : Int) < 0 := by omega
  have TR : Hid (∀ W : World, Below w.heap.size w W → Calls Try.prog 11 #[.agg #[.string z, .slice A n c]] W fun e w' => ∃ g, e = .returned (.agg #[.string z, .slice (some ⟨g, 0, none⟩) n n]) ∧ Bk w' g 36 (fl l) ∧ W.heap.size ≤ g ∧ Below W.heap.size W w') :=
    fun W hW => toZone_any z A n c l W ((S0.out.below hW).wider hW.size) bn
  have TS : Hid (∀ W : World, Below w.heap.size w W → Calls Try.prog 23 #[.slice A2 n2 c2] W fun e w' => ∃ g, e = .returned (.slice (some ⟨g, 0, none⟩) n2 n2) ∧ Bk w' g 9 (H.map tv) ∧ W.heap.size ≤ g ∧ Below W.heap.size W w') :=
    fun W hW => (CopyS.toStringS_any A2 n2 c2 H W ((T0.out.below hW).wider hW.size) (by omega)).mono fun e w' ⟨h1, h2, h3⟩ => ⟨_, h1, h2, Nat.le_refl _, h3⟩
  have SP : Hid (∀ (g h : Nat) (W : World), Bk W g 36 (fl l) → Bk W h 9 (H.map tv) → Calls Try.prog 22 #[.agg #[.string z, .slice (some ⟨g, 0, none⟩) n n], .slice (some ⟨h, 0, none⟩) n2 n2] W fun e w' => ∃ g m c r, e = .returned (.slice (some ⟨g, 0, none⟩) m c) ∧ (gl H l).length = m ∧ m ≤ c ∧ W.heap.size ≤ g ∧ Bk w' g 36 (fl (gl H l) ++ r) ∧ Below W.heap.size W w') :=
    fun g h W hb hc => GlueS.spec z g 0 n n l h 0 n2 n2 H W (bk_sr0 hb HN.out) (bk_ssw0 hc HNH.out) bm bm2
  have IM : Hid (∀ (g h : Nat) (W : World), Bk W g 36 (fl l) → Bk W h 9 (H.map tv) → Calls Try.prog 24 #[.agg #[.string z, .slice (some ⟨g, 0, none⟩) n n], .slice (some ⟨h, 0, none⟩) n2 n2] W fun e w' => ∃ g m c r, e = .returned (.slice (some ⟨g, 0, none⟩) m c) ∧ (gl H l).length = m ∧ m ≤ c ∧ W.heap.size ≤ g ∧ Bk w' g 36 (fl (gl H l) ++ r) ∧ Below W.heap.size W w') :=
    fun g h W hb hc => GlueI.impl z g 0 n n l h 0 n2 n2 H W (bk_sr0 hb HN.out) (bk_ssw0 hc HNH.out) bm bm2
  have HLL : Hid ((gl H l).length ≤ 1100000000000) := by
    show _ ≤ _
    refine Nat.le_trans (gl_len H l) ?_
    rw [HN.out, HNH.out]
    exact Nat.le_trans (Nat.mul_le_mul bm2 bm) (by decide)
  generalize gl H l = L at *
  have EQ : Hid (∀ (g h m c c' : Nat) (r r' : List Value) (W : World), L.length = m → Bk W g 36 (fl L ++ r) → Bk W h 36 (fl L ++ r') → Calls Try.prog 25 #[.slice (some ⟨g, 0, none⟩) m c, .slice (some ⟨h, 0, none⟩) m c'] W fun e w' => e = .returned (.bool true) ∧ Below W.heap.size W w') :=
    fun g h m c c' r r' W hm h1 h2 => eqRecordS_wide _ _ m c c' L W (bk_sr h1 hm) (bk_sr h2 hm) (by have := HLL.out; omega)
  have MK : Hid (∀ (g : Nat) (W : World), Bk W g 9 (H.map tv) → Calls Try.prog 28 #[.slice (some ⟨g, 0, none⟩) n2 n2, .int .i64 (1 + 6 * (n : Int))] W fun e w' => e = .returned (.int .i64 (1 + 6 * (n : Int) + (n2 : Int))) ∧ W.grownBy w' (some g)) := fun g W h => by
    have := markStringS_from (1 + 6 * n) (by omega) (by omega) g n2 n2 H [] W (by rw [List.append_nil]; exact h) HNH.out (by omega)
    rw [show ((1 + 6 * n : Nat) : Int) = 1 + 6 * (n : Int) by omega] at this
    exact this.mono fun e w' ⟨h1, _, h3⟩ => ⟨h1, h3⟩
  clear S0 T0
  obtain ⟨x0, x1⟩ := J1.out
  go_wp2_with fail
  refine (TR.out _ L1.out).mono ?_
  rintro e w2 ⟨gv, rfl, hb, hg, hl⟩
  have V2 := Lib.hid hb
  have L2 := Lib.hid (L1.out.trans (hl.mono L1.out.size))
  have J2 := Lib.hid (J1.out.below hl)
  clear hl L1 J1 hb hg x0 x1
  go_wp2_with fail
  refine (TS.out _ L2.out).mono ?_
  rintro e w3 ⟨gs, rfl, hb, hg, hl⟩
  have U3 := Lib.hid hb
  have L3 := Lib.hid (L2.out.trans (hl.mono L2.out.size))
  have J3 := Lib.hid (J2.out.below hl)
  have V3 := Lib.hid (V2.out.below hl V2.out.lt)
  clear hl L2 J2 V2 hb hg
  go_wp2_with fail
  refine (SP.out _ _ w3 V3.out U3.out).mono ?_
  rintro e w4 ⟨gw, m, cw, rw, rfl, hm, hcw, hg, hb, hl⟩
  have HM := Lib.hid hm
  have hmn : m ≤ 1100000000000 := by have := HLL.out; omega
  have W4 := Lib.hid hb
  have L4 := Lib.hid (L3.out.trans (hl.mono L3.out.size))
  have J4 := Lib.hid (J3.out.below hl)
  clear hl L3 J3 V3 U3 hm hcw hg hb
  obtain ⟨x0, x1⟩ := J4.out
  go_wp2_with fail
  refine (TR.out _ L4.out).mono ?_
  rintro e w5 ⟨gx, rfl, hb, hg, hl⟩
  have X5 := Lib.hid hb
  have NWX := Lib.hid (show gw ≠ gx from fun e => by have := W4.out.lt; omega)
  have GX := Lib.hid (Nat.le_trans L4.out.size hg)
  have NJX := Lib.hid (show w.heap.size ≠ gx from fun e => by have := J4.out.lt; omega)
  have L5 := Lib.hid (L4.out.trans (hl.mono L4.out.size))
  have J5 := Lib.hid (J4.out.below hl)
  have W5 := Lib.hid (W4.out.below hl W4.out.lt)
  clear hl L4 J4 W4 hb hg x0 x1
  have NQX := Lib.hid (show w5.heap.size ≠ gx from fun e => by have := X5.out.lt; omega)
  have al : Below w5.heap.size w5 (w5.alloc (.cells #[.string z, .slice (some ⟨gx, 0, none⟩) n n] 30)) := (Below.refl _ _).alloc (Nat.le_refl _) _
  have L6 := Lib.hid (L5.out.trans (al.mono L5.out.size))
  have J6 := Lib.hid (J5.out.below al)
  have W6 := Lib.hid (W5.out.below al W5.out.lt)
  have X6 := Lib.hid (X5.out.below al X5.out.lt)
  have Q6 := Lib.hid (zx_new w5 30 z (.slice (some ⟨gx, 0, none⟩) n n))
  clear al L5 J5 W5 X5
  go_wp2_with fail
  refine (TS.out _ L6.out).mono ?_
  rintro e w7 ⟨gy, rfl, hb, hg, hl⟩
  have Y7 := Lib.hid hb
  have NWY := Lib.hid (show gw ≠ gy from fun e => by have := W6.out.lt; omega)
  have NXY := Lib.hid (show gx ≠ gy from fun e => by have := X6.out.lt; omega)
  have GY := Lib.hid (Nat.le_trans L6.out.size hg)
  have NJY := Lib.hid (show w.heap.size ≠ gy from fun e => by have := J6.out.lt; omega)
  have NQY := Lib.hid (show w5.heap.size ≠ gy from fun e => by have := Q6.out.lt; omega)
  have L7 := Lib.hid (L6.out.trans (hl.mono L6.out.size))
  have J7 := Lib.hid (J6.out.below hl)
  have W7 := Lib.hid (W6.out.below hl W6.out.lt)
  have X7 := Lib.hid (X6.out.below hl X6.out.lt)
  have Q7 := Lib.hid (Q6.out.below hl)
  clear hl L6 J6 W6 X6 Q6 hb hg
  generalize w5.heap.size = gq at *
  obtain ⟨x0, x1⟩ := Q7.out
  go_wp2_with fail
  refine (IM.out _ _ _ X7.out Y7.out).mono ?_
  rintro e w8 ⟨gg, m', cg, rg, rfl, hm, hcg, hg, hb, hl⟩
  obtain rfl : m = m' := HM.out.symm.trans hm
  have G8 := Lib.hid hb
  have NWG := Lib.hid (show gw ≠ gg from fun e => by have := W7.out.lt; omega)
  have NXG := Lib.hid (show gx ≠ gg from fun e => by have := X7.out.lt; omega)
  have NYG := Lib.hid (show gy ≠ gg from fun e => by have := Y7.out.lt; omega)
  have GG := Lib.hid (Nat.le_trans L7.out.size hg)
  have NJG := Lib.hid (show w.heap.size ≠ gg from fun e => by have := J7.out.lt; omega)
  have NQG := Lib.hid (show gq ≠ gg from fun e => by have := Q7.out.lt; omega)
  have L8 := Lib.hid (L7.out.trans (hl.mono L7.out.size))
  have J8 := Lib.hid (J7.out.below hl)
  have W8 := Lib.hid (W7.out.below hl W7.out.lt)
  have X8 := Lib.hid (X7.out.below hl X7.out.lt)
  have Q8 := Lib.hid (Q7.out.below hl)
  have Y8 := Lib.hid (Y7.out.below hl Y7.out.lt)
  clear hl L7 J7 W7 X7 Q7 Y7 hm hcg hg hb x0 x1
  go_wp2_with fail
  refine (EQ.out gg gw m cg cw rg rw w8 HM.out G8.out W8.out).mono ?_
  rintro e w9 ⟨rfl, hl⟩
  have L9 := Lib.hid (L8.out.trans (hl.mono L8.out.size))
  have J9 := Lib.hid (J8.out.below hl)
  have W9 := Lib.hid (W8.out.below hl W8.out.lt)
  have X9 := Lib.hid (X8.out.below hl X8.out.lt)
  have Q9 := Lib.hid (Q8.out.below hl)
  have Y9 := Lib.hid (Y8.out.below hl Y8.out.lt)
  have G9 := Lib.hid (G8.out.below hl G8.out.lt)
  clear hl L8 J8 W8 X8 Q8 Y8 G8 
  have TM : Hid (∀ W : World, (((W.cell? ⟨w.heap.size, 0, none⟩ = some (.string z) ∧ W.cell? ⟨w.heap.size, 1, none⟩ = some (.slice A n c)) ∧ (W.cell? ⟨gq, 0, none⟩ = some (.string z) ∧ W.cell? ⟨gq, 1, none⟩ = some (.slice (some ⟨gx, 0, none⟩) n n))) ∧ Svz w9 W) → Calls Try.prog 11 #[.agg #[.string z, .slice A n c]] W fun e w' => ∃ g, e = .returned (.agg #[.string z, .slice (some ⟨g, 0, none⟩) n n]) ∧ Bk w' g 36 (fl l) ∧ W.heap.size ≤ g ∧ Below W.heap.size W w') := fun W hW => TR.out W (L9.out.trans ((show Below w9.heap.size w9 W from hW.2).mono L9.out.size))
  have EQZ : Hid (∀ (W : World) (t : Nat), (((W.cell? ⟨w.heap.size, 0, none⟩ = some (.string z) ∧ W.cell? ⟨w.heap.size, 1, none⟩ = some (.slice A n c)) ∧ (W.cell? ⟨gq, 0, none⟩ = some (.string z) ∧ W.cell? ⟨gq, 1, none⟩ = some (.slice (some ⟨gx, 0, none⟩) n n))) ∧ Svz w9 W) → Bk W t 36 (fl l) → Calls Try.prog 13 #[.agg #[.string z, .slice (some ⟨gx, 0, none⟩) n n], .agg #[.string z, .slice (some ⟨t, 0, none⟩) n n]] W fun e w' => e = .returned (.bool true) ∧ Below W.heap.size W w') := fun W t hW ht => eqZone_same z _ _ n n n l W (bk_sr0 (X9.out.below hW.2 X9.out.lt) HN.out) (bk_sr0 ht HN.out) bn
  have SS0 : ((w9.cell? ⟨w.heap.size, 0, none⟩ = some (.string z) ∧ w9.cell? ⟨w.heap.size, 1, none⟩ = some (.slice A n c)) ∧ (w9.cell? ⟨gq, 0, none⟩ = some (.string z) ∧ w9.cell? ⟨gq, 1, none⟩ = some (.slice (some ⟨gx, 0, none⟩) n n))) ∧ Svz w9 w9 := ⟨⟨J9.out, Q9.out⟩, Below.refl _ _⟩
  go_wp2
  go_region_held3 (fun w' => ((w'.cell? ⟨w.heap.size, 0, none⟩ = some (.string z) ∧ w'.cell? ⟨w.heap.size, 1, none⟩ = some (.slice A n c)) ∧ (w'.cell? ⟨gq, 0, none⟩ = some (.string z) ∧ w'.cell? ⟨gq, 1, none⟩ = some (.slice (some ⟨gx, 0, none⟩) n n))) ∧ Svz w9 w')
    (first | with_reducible exact SS0 | with_reducible assumption | exact kept2z (by assumption) hl | exact kept2z_draw (by assumption) | fail)
    (first
      | (go_at_call 11; (with_reducible refine (TM.out _ (by assumption)).mono ?_); rintro e wt9 ⟨t1, rfl, hb1, -, hl⟩)
      | (go_at_call 13; (with_reducible refine (EQZ.out _ _ (by assumption) hb1).mono ?_); rintro e w10 ⟨rfl, hl⟩)
      | fail)
  rename_i hH
  have hz : Below w9.heap.size w9 w10 := hH.2
  clear hH hb1 hl SS0 TM EQZ
  have L10 := Lib.hid (L9.out.trans (hz.mono L9.out.size))
  have J10 := Lib.hid (J9.out.below hz)
  have W10 := Lib.hid (W9.out.below hz W9.out.lt)
  have X10 := Lib.hid (X9.out.below hz X9.out.lt)
  have Q10 := Lib.hid (Q9.out.below hz)
  have Y10 := Lib.hid (Y9.out.below hz Y9.out.lt)
  have G10 := Lib.hid (G9.out.below hz G9.out.lt)
  clear hz L9 J9 W9 X9 Q9 Y9 G9
  go_wp2_with fail
  refine (TS.out _ L10.out).mono ?_
  rintro e w11 ⟨gu, rfl, hb, hg, hl⟩
  have U11 := Lib.hid hb
  have L11 := Lib.hid (L10.out.trans (hl.mono L10.out.size))
  have J11 := Lib.hid (J10.out.below hl)
  have W11 := Lib.hid (W10.out.below hl W10.out.lt)
  have X11 := Lib.hid (X10.out.below hl X10.out.lt)
  have Q11 := Lib.hid (Q10.out.below hl)
  have Y11 := Lib.hid (Y10.out.below hl Y10.out.lt)
  have G11 := Lib.hid (G10.out.below hl G10.out.lt)
  clear hl L10 J10 W10 X10 Q10 Y10 G10 hb hg
  go_wp2_with fail
  refine (eqStringS_same _ _ n2 n2 n2 H w11 _ (bk_ssw0 Y11.out HNH.out) (bk_ssw0 U11.out HNH.out) (by omega)).mono ?_
  rintro e w12 ⟨rfl, hl⟩
  have L12 := Lib.hid (L11.out.trans (hl.mono L11.out.size))
  have J12 := Lib.hid (J11.out.below hl)
  have W12 := Lib.hid (W11.out.below hl W11.out.lt)
  have X12 := Lib.hid (X11.out.below hl X11.out.lt)
  have Q12 := Lib.hid (Q11.out.below hl)
  have Y12 := Lib.hid (Y11.out.below hl Y11.out.lt)
  have G12 := Lib.hid (G11.out.below hl G11.out.lt)
  clear hl L11 J11 W11 X11 Q11 Y11 G11 U11 
  obtain ⟨x0, x1⟩ := Q12.out
  go_wp2_with fail
  refine (markZone_one z gx n n l [] w12 (by rw [List.append_nil]; exact X12.out) HN.out (by omega)).mono ?_
  rintro e w13 ⟨rfl, gr⟩
  have L13 := Lib.hid (L12.out.grown gr L12.out.size (fun j hj => by cases hj; exact GX.out))
  have J13 := Lib.hid (J12.out.grown gr (fun e => NJX.out (Option.some.inj e)))
  have W13 := Lib.hid (W12.out.grown gr (fun e => NWX.out (Option.some.inj e)))
  have Q13 := Lib.hid (Q12.out.grown gr (fun e => NQX.out (Option.some.inj e)))
  have Y13 := Lib.hid (Y12.out.grown gr (fun e => NXY.out (Option.some.inj e).symm))
  have G13 := Lib.hid (G12.out.grown gr (fun e => NXG.out (Option.some.inj e).symm))
  clear gr L12 J12 W12 X12 Q12 Y12 G12 x0 x1
  go_wp2_with fail
  refine (MK.out gy w13 Y13.out).mono ?_
  rintro e w14 ⟨rfl, gr⟩
  have L14 := Lib.hid (L13.out.grown gr L13.out.size (fun j hj => by cases hj; exact GY.out))
  have J14 := Lib.hid (J13.out.grown gr (fun e => NJY.out (Option.some.inj e)))
  have W14 := Lib.hid (W13.out.grown gr (fun e => NWY.out (Option.some.inj e)))
  have Q14 := Lib.hid (Q13.out.grown gr (fun e => NQY.out (Option.some.inj e)))
  have G14 := Lib.hid (G13.out.grown gr (fun e => NYG.out (Option.some.inj e).symm))
  clear gr L13 J13 W13 Q13 Y13 G13 
  go_wp2_with fail
  refine (EQ.out gg gw m cg cw rg rw w14 HM.out G14.out W14.out).mono ?_
  rintro e w15 ⟨rfl, hl⟩
  have L15 := Lib.hid (L14.out.trans (hl.mono L14.out.size))
  have J15 := Lib.hid (J14.out.below hl)
  have W15 := Lib.hid (W14.out.below hl W14.out.lt)
  have Q15 := Lib.hid (Q14.out.below hl)
  have G15 := Lib.hid (G14.out.below hl G14.out.lt)
  clear hl L14 J14 W14 Q14 G14 
  go_wp2_with fail
  refine (markRecordS_wide gg m cg L rg w15 G15.out HM.out hmn).mono ?_
  rintro e w16 ⟨rfl, mm, gr⟩
  have M16 := Lib.hid mm
  have L16 := Lib.hid (L15.out.grown gr L15.out.size (fun j hj => by cases hj; exact GG.out))
  have J16 := Lib.hid (J15.out.grown gr (fun e => NJG.out (Option.some.inj e)))
  have W16 := Lib.hid (W15.out.grown gr (fun e => NWG.out (Option.some.inj e)))
  have Q16 := Lib.hid (Q15.out.grown gr (fun e => NQG.out (Option.some.inj e)))
  clear gr L15 J15 W15 Q15 G15 mm
  have q0 : ¬ (1 : Int) + 6 * (m : Int) < 0 := by omega
  have q1 : ((1 : Int) + 6 * (m : Int) != 1 + 6 * (m : Int)) = false := by simp
  go_wp2_with fail
  refine (heldRecordS_wide gg m cg rg w16 M16.out hmn).mono ?_
  rintro e w17 ⟨rfl, hl⟩
  have L17 := Lib.hid (L16.out.trans (hl.mono L16.out.size))
  have J17 := Lib.hid (J16.out.below hl)
  have W17 := Lib.hid (W16.out.below hl W16.out.lt)
  have Q17 := Lib.hid (Q16.out.below hl)
  have M17 := Lib.hid (M16.out.below hl M16.out.lt)
  clear hl L16 J16 W16 Q16 M16 
  obtain ⟨x0, x1⟩ := J17.out
  go_wp2_with fail
  refine (TR.out _ L17.out).mono ?_
  rintro e w18 ⟨gt, rfl, hb, hg, hl⟩
  have T18 := Lib.hid hb
  have L18 := Lib.hid (L17.out.trans (hl.mono L17.out.size))
  have J18 := Lib.hid (J17.out.below hl)
  have W18 := Lib.hid (W17.out.below hl W17.out.lt)
  have Q18 := Lib.hid (Q17.out.below hl)
  have M18 := Lib.hid (M17.out.below hl M17.out.lt)
  clear hl L17 J17 W17 Q17 M17 hb hg x0 x1
  go_wp2_with fail
  refine (TS.out _ L18.out).mono ?_
  rintro e w19 ⟨gu, rfl, hb, hg, hl⟩
  have U19 := Lib.hid hb
  have L19 := Lib.hid (L18.out.trans (hl.mono L18.out.size))
  have J19 := Lib.hid (J18.out.below hl)
  have W19 := Lib.hid (W18.out.below hl W18.out.lt)
  have Q19 := Lib.hid (Q18.out.below hl)
  have M19 := Lib.hid (M18.out.below hl M18.out.lt)
  have T19 := Lib.hid (T18.out.below hl T18.out.lt)
  clear hl L18 J18 W18 Q18 M18 T18 hb hg
  go_wp2_with fail
  refine (IM.out _ _ w19 T19.out U19.out).mono ?_
  rintro e w20 ⟨gh, m', ch, rh, rfl, hm, hcg, hg, hb, hl⟩
  obtain rfl : m = m' := HM.out.symm.trans hm
  have H20 := Lib.hid hb
  have L20 := Lib.hid (L19.out.trans (hl.mono L19.out.size))
  have J20 := Lib.hid (J19.out.below hl)
  have W20 := Lib.hid (W19.out.below hl W19.out.lt)
  have Q20 := Lib.hid (Q19.out.below hl)
  have M20 := Lib.hid (M19.out.below hl M19.out.lt)
  clear hl L19 J19 W19 Q19 M19 T19 U19 hm hcg hg hb
  go_wp2_with fail
  refine (EQ.out gh gw m ch cw rh rw w20 HM.out H20.out W20.out).mono ?_
  rintro e w21 ⟨rfl, hl⟩
  have L21 := Lib.hid (L20.out.trans (hl.mono L20.out.size))
  have J21 := Lib.hid (J20.out.below hl)
  have Q21 := Lib.hid (Q20.out.below hl)
  have M21 := Lib.hid (M20.out.below hl M20.out.lt)
  clear hl L20 J20 W20 Q20 M20 H20 
  go_wp2_with fail
  refine (heldRecordS_wide gg m cg rg w21 M21.out hmn).mono ?_
  rintro e w22 ⟨rfl, hl⟩
  have L22 := Lib.hid (L21.out.trans (hl.mono L21.out.size))
  have J22 := Lib.hid (J21.out.below hl)
  have Q22 := Lib.hid (Q21.out.below hl)
  clear hl L21 J21 Q21 M21 
  go_wp2
  go_ret
  exact ⟨rfl, L22.out⟩

end Go.Proofs.Ytkpcanigdppegaa.LawGlue
