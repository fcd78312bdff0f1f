/- The law FnExactCutsOf returns true at every zone, and turns nothing that was there: CutsOf answers as its model. -/
import Derived.Test.YtkpcanigdppegaaSzZ
import Derived.Test.YtkpcanigdppegaaToZ
import Derived.Test.YtkpcanigdppegaaEqZ
import Derived.Test.YtkpcanigdppegaaCutsS
import Derived.Test.YtkpcanigdppegaaEqS
import Derived.Test.YtkpcanigdppegaaMarkS
import Derived.Test.YtkpcanigdppegaaMarkZ
import Derived.Test.YtkpcanigdppegaaCutsOfI
import Derived.Deep.RegionHeld3
namespace Go.Proofs.Ytkpcanigdppegaa.LawCutsOf
open Go.RowKit Go.Proofs.Ytkpcanigdppegaa.Mem Go.Proofs.Ytkpcanigdppegaa.MemR Go.Proofs.Ytkpcanigdppegaa.MemZ Go.Proofs.Ytkpcanigdppegaa.SzZ Go.Proofs.Ytkpcanigdppegaa.ToZ Go.Proofs.Ytkpcanigdppegaa.EqZ Go.Proofs.Ytkpcanigdppegaa.SetMath Go.Proofs.Ytkpcanigdppegaa.NameMath Go.Proofs.Ytkpcanigdppegaa.ZoneMath Go.Proofs.Ytkpcanigdppegaa.MemS Go.Proofs.Ytkpcanigdppegaa.EqS Go.Proofs.Ytkpcanigdppegaa.MarkS Go.Proofs.Ytkpcanigdppegaa.MarkZ

set_option maxHeartbeats 8000000 in
theorem walk (z : ByteArray) (A : Option Addr) (n c : Nat) (l : List Rec) (w : World) (hzs : z.size ≤ 9223372036854775807) (hs : Sr w w.heap.size A n l) (hn : n ≤ 9223372036854775807) (hz : ∀ r ∈ l, r.name.size ≤ 9223372036854775807 ∧ r.host.size ≤ 9223372036854775807 ∧ r.text.size ≤ 9223372036854775807) :
    Calls Try.prog 8 #[.agg #[.string z, .slice A n c]] w fun e w' => e = .returned (.bool true) ∧ Below w.heap.size w w' := by
  have S0 := Lib.hid hs
  have Z0 := Lib.hid hz
  clear hs hz
  have L0 := Lib.hid ((Below.refl w.heap.size w).alloc (Nat.le_refl _) (.cells #[.string z, .slice A n c] 24))
  have J0 := Lib.hid (zx_new w 24 z (.slice A n c))
  go_enter Try.func8, Try.ntmps8
  obtain ⟨x0, x1⟩ := J0.out
  go_wp2_with fail
  refine (szZone_any z A n c l 1048576 _ (by omega) (by omega) hzs (S0.out.on L0.out) hn Z0.out).mono ?_
  rintro e w1 ⟨y, rfl, hy0, hy1, hy, hl⟩
  have Y0 := Lib.hid hy
  have L1 := Lib.hid (L0.out.trans (hl.mono L0.out.size))
  have J1 := Lib.hid (J0.out.below hl)
  clear hy hl L0 J0 x0 x1
  by_cases hneg : y < 0
  · go_wp2
    go_ret
    exact ⟨rfl, L1.out⟩
  have Y1 := Lib.hid (Y0.out (by omega))
  clear Y0
  have bm : n ≤ 1048576 := by have := Y1.out; have := S0.out.1; omega
  have bn : n ≤ 400000000 := by omega
  have bz : z.size ≤ 400000000 := by have := Y1.out; omega
  have HN : Hid (l.length = n) := S0.out.1
  have HR : Hid (∀ r ∈ l, r.name.size ≤ 400000000) := fun r hr => by
    have := Y1.out
    have h1 := tot_le l r hr
    unfold rz at h1
    omega
  clear Y1 Z0
  have hk0 : ¬ (1 : Int) + 6 * (n : Int) < 0 := by omega
  have TR : Hid (∀ W : World, Below w.heap.size w W → Calls Try.prog 11 #[.agg #[.string z, .slice A n c]] W fun e w' => ∃ g, e = .returned (.agg #[.string z, .slice (some ⟨g, 0, none⟩) n n]) ∧ Bk w' g 36 (fl l) ∧ W.heap.size ≤ g ∧ Below W.heap.size W w') :=
    fun W hW => toZone_any z A n c l W ((S0.out.below hW).wider hW.size) bn
  have SP : Hid (∀ (g : Nat) (W : World), Bk W g 36 (fl l) → Calls Try.prog 31 #[.agg #[.string z, .slice (some ⟨g, 0, none⟩) n n]] W fun e w' => ∃ g m c r, e = .returned (.slice (some ⟨g, 0, none⟩) m c) ∧ (uq (cn z l)).length = m ∧ m ≤ c ∧ W.heap.size ≤ g ∧ Bk w' g 9 ((uq (cn z l)).map tv ++ r) ∧ Below W.heap.size W w') :=
    fun g W h => CutsS.spec z g 0 n n l W (bk_sr0 h HN.out) bn bz HR.out
  have IM : Hid (∀ (g : Nat) (W : World), Bk W g 36 (fl l) → Calls Try.prog 32 #[.agg #[.string z, .slice (some ⟨g, 0, none⟩) n n]] W fun e w' => ∃ g m c r, e = .returned (.slice (some ⟨g, 0, none⟩) m c) ∧ (uq (cn z l)).length = m ∧ m ≤ c ∧ W.heap.size ≤ g ∧ Bk w' g 9 ((uq (cn z l)).map tv ++ r) ∧ Below W.heap.size W w') :=
    fun g W h => CutsOfI.impl z g 0 n n l W (bk_sr0 h HN.out) bn bz HR.out
  have HLL : Hid ((uq (cn z l)).length ≤ n) := by
    show _ ≤ _
    have := HN.out
    have h1 := len_uq (cn z l); have h2 := cn_len z l; omega
  generalize uq (cn z l) = L at *
  have EQ : Hid (∀ (g h m c c' : Nat) (r r' : List Value) (W : World), L.length = m → m ≤ n → Bk W g 9 (L.map tv ++ r) → Bk W h 9 (L.map tv ++ r') → Calls Try.prog 26 #[.slice (some ⟨g, 0, none⟩) m c, .slice (some ⟨h, 0, none⟩) m c'] W fun e w' => e = .returned (.bool true) ∧ Below W.heap.size W w') :=
    fun g h m c c' r r' W hm hmn h1 h2 => eqStringS_same _ _ m c c' L W W.heap.size (bk_ssw h1 hm) (bk_ssw h2 hm) (by omega)
  obtain ⟨x0, x1⟩ := J1.out
  go_wp2_with fail
  refine (TR.out _ L1.out).mono ?_
  rintro e w2 ⟨gv, rfl, hb, hg, hl⟩
  have V2 := Lib.hid hb
  have L2 := Lib.hid (L1.out.trans (hl.mono L1.out.size))
  have J2 := Lib.hid (J1.out.below hl)
  clear hl L1 J1 hb hg x0 x1
  go_wp2_with fail
  refine (SP.out _ w2 V2.out).mono ?_
  rintro e w3 ⟨gw, m, cw, rw, rfl, hm, hcw, hg, hb, hl⟩
  have HM := Lib.hid hm
  have hmn : m ≤ n := by have := HLL.out; omega
  have W3 := Lib.hid hb
  have L3 := Lib.hid (L2.out.trans (hl.mono L2.out.size))
  have J3 := Lib.hid (J2.out.below hl)
  clear hl L2 J2 V2 hm hcw hg hb
  obtain ⟨x0, x1⟩ := J3.out
  go_wp2_with fail
  refine (TR.out _ L3.out).mono ?_
  rintro e w4 ⟨gx, rfl, hb, hg, hl⟩
  have X4 := Lib.hid hb
  have NWX := Lib.hid (show gw ≠ gx from fun e => by have := W3.out.lt; omega)
  have GX := Lib.hid (Nat.le_trans L3.out.size hg)
  have NJX := Lib.hid (show w.heap.size ≠ gx from fun e => by have := J3.out.lt; omega)
  have L4 := Lib.hid (L3.out.trans (hl.mono L3.out.size))
  have J4 := Lib.hid (J3.out.below hl)
  have W4 := Lib.hid (W3.out.below hl W3.out.lt)
  clear hl L3 J3 W3 hb hg x0 x1
  have NQX := Lib.hid (show w4.heap.size ≠ gx from fun e => by have := X4.out.lt; omega)
  have NWQ := Lib.hid (show gw < w4.heap.size from W4.out.lt)
  have al : Below w4.heap.size w4 (w4.alloc (.cells #[.string z, .slice (some ⟨gx, 0, none⟩) n n] 30)) := (Below.refl _ _).alloc (Nat.le_refl _) _
  have L5 := Lib.hid (L4.out.trans (al.mono L4.out.size))
  have J5 := Lib.hid (J4.out.below al)
  have W5 := Lib.hid (W4.out.below al W4.out.lt)
  have X5 := Lib.hid (X4.out.below al X4.out.lt)
  have Q5 := Lib.hid (zx_new w4 30 z (.slice (some ⟨gx, 0, none⟩) n n))
  clear al L4 J4 W4 X4
  go_wp2_with fail
  refine (IM.out _ _ X5.out).mono ?_
  rintro e w6 ⟨gg, m', cg, rg, rfl, hm, hcg, hg, hb, hl⟩
  obtain rfl : m = m' := HM.out.symm.trans hm
  have G6 := Lib.hid hb
  have NWG := Lib.hid (show gw ≠ gg from fun e => by have := W5.out.lt; omega)
  have NXG := Lib.hid (show gx ≠ gg from fun e => by have := X5.out.lt; omega)
  have GG := Lib.hid (Nat.le_trans L5.out.size hg)
  have NJG := Lib.hid (show w.heap.size ≠ gg from fun e => by have := J5.out.lt; omega)
  have NQG := Lib.hid (show w4.heap.size ≠ gg from fun e => by have := Q5.out.lt; omega)
  have L6 := Lib.hid (L5.out.trans (hl.mono L5.out.size))
  have J6 := Lib.hid (J5.out.below hl)
  have W6 := Lib.hid (W5.out.below hl W5.out.lt)
  have X6 := Lib.hid (X5.out.below hl X5.out.lt)
  have Q6 := Lib.hid (Q5.out.below hl)
  clear hl L5 J5 W5 X5 Q5 hm hcg hg hb
  generalize w4.heap.size = gq at *
  go_wp2_with fail
  refine (EQ.out gg gw m cg cw rg rw w6 HM.out hmn G6.out W6.out).mono ?_
  rintro e w7 ⟨rfl, hl⟩
  have L7 := Lib.hid (L6.out.trans (hl.mono L6.out.size))
  have J7 := Lib.hid (J6.out.below hl)
  have W7 := Lib.hid (W6.out.below hl W6.out.lt)
  have X7 := Lib.hid (X6.out.below hl X6.out.lt)
  have Q7 := Lib.hid (Q6.out.below hl)
  have G7 := Lib.hid (G6.out.below hl G6.out.lt)
  clear hl L6 J6 W6 X6 Q6 G6 
  have TM : Hid (∀ W : World, (((W.cell? ⟨w.heap.size, 0, none⟩ = some (.string z) ∧ W.cell? ⟨w.heap.size, 1, none⟩ = some (.slice A n c)) ∧ (W.cell? ⟨gq, 0, none⟩ = some (.string z) ∧ W.cell? ⟨gq, 1, none⟩ = some (.slice (some ⟨gx, 0, none⟩) n n))) ∧ Svz w7 W) → Calls Try.prog 11 #[.agg #[.string z, .slice A n c]] W fun e w' => ∃ g, e = .returned (.agg #[.string z, .slice (some ⟨g, 0, none⟩) n n]) ∧ Bk w' g 36 (fl l) ∧ W.heap.size ≤ g ∧ Below W.heap.size W w') := fun W hW => TR.out W (L7.out.trans ((show Below w7.heap.size w7 W from hW.2).mono L7.out.size))
  have EQZ : Hid (∀ (W : World) (t : Nat), (((W.cell? ⟨w.heap.size, 0, none⟩ = some (.string z) ∧ W.cell? ⟨w.heap.size, 1, none⟩ = some (.slice A n c)) ∧ (W.cell? ⟨gq, 0, none⟩ = some (.string z) ∧ W.cell? ⟨gq, 1, none⟩ = some (.slice (some ⟨gx, 0, none⟩) n n))) ∧ Svz w7 W) → Bk W t 36 (fl l) → Calls Try.prog 13 #[.agg #[.string z, .slice (some ⟨gx, 0, none⟩) n n], .agg #[.string z, .slice (some ⟨t, 0, none⟩) n n]] W fun e w' => e = .returned (.bool true) ∧ Below W.heap.size W w') := fun W t hW ht => eqZone_same z _ _ n n n l W (bk_sr0 (X7.out.below hW.2 X7.out.lt) HN.out) (bk_sr0 ht HN.out) bn
  have SS0 : ((w7.cell? ⟨w.heap.size, 0, none⟩ = some (.string z) ∧ w7.cell? ⟨w.heap.size, 1, none⟩ = some (.slice A n c)) ∧ (w7.cell? ⟨gq, 0, none⟩ = some (.string z) ∧ w7.cell? ⟨gq, 1, none⟩ = some (.slice (some ⟨gx, 0, none⟩) n n))) ∧ Svz w7 w7 := ⟨⟨J7.out, Q7.out⟩, Below.refl _ _⟩
  go_wp2
  go_region_held3 (fun w' => ((w'.cell? ⟨w.heap.size, 0, none⟩ = some (.string z) ∧ w'.cell? ⟨w.heap.size, 1, none⟩ = some (.slice A n c)) ∧ (w'.cell? ⟨gq, 0, none⟩ = some (.string z) ∧ w'.cell? ⟨gq, 1, none⟩ = some (.slice (some ⟨gx, 0, none⟩) n n))) ∧ Svz w7 w')
    (first | with_reducible exact SS0 | with_reducible assumption | exact kept2z (by assumption) hl | exact kept2z_draw (by assumption) | fail)
    (first
      | (go_at_call 11; (with_reducible refine (TM.out _ (by assumption)).mono ?_); rintro e wt7 ⟨t1, rfl, hb1, -, hl⟩)
      | (go_at_call 13; (with_reducible refine (EQZ.out _ _ (by assumption) hb1).mono ?_); rintro e w8 ⟨rfl, hl⟩)
      | fail)
  rename_i hH
  have hz : Below w7.heap.size w7 w8 := hH.2
  clear hH hb1 hl SS0 TM EQZ
  have L8 := Lib.hid (L7.out.trans (hz.mono L7.out.size))
  have J8 := Lib.hid (J7.out.below hz)
  have W8 := Lib.hid (W7.out.below hz W7.out.lt)
  have X8 := Lib.hid (X7.out.below hz X7.out.lt)
  have Q8 := Lib.hid (Q7.out.below hz)
  have G8 := Lib.hid (G7.out.below hz G7.out.lt)
  clear hz L7 J7 W7 X7 Q7 G7
  obtain ⟨x0, x1⟩ := Q8.out
  go_wp2_with fail
  refine (markZone_one z gx n n l [] w8 (by rw [List.append_nil]; exact X8.out) HN.out (by omega)).mono ?_
  rintro e w9 ⟨rfl, gr⟩
  have L9 := Lib.hid (L8.out.grown gr L8.out.size (fun j hj => by cases hj; exact GX.out))
  have J9 := Lib.hid (J8.out.grown gr (fun e => NJX.out (Option.some.inj e)))
  have W9 := Lib.hid (W8.out.grown gr (fun e => NWX.out (Option.some.inj e)))
  have Q9 := Lib.hid (Q8.out.grown gr (fun e => NQX.out (Option.some.inj e)))
  have G9 := Lib.hid (G8.out.grown gr (fun e => NXG.out (Option.some.inj e).symm))
  clear gr L8 J8 W8 X8 Q8 G8 x0 x1
  go_wp2_with fail
  refine (EQ.out gg gw m cg cw rg rw w9 HM.out hmn G9.out W9.out).mono ?_
  rintro e w10 ⟨rfl, hl⟩
  have L10 := Lib.hid (L9.out.trans (hl.mono L9.out.size))
  have J10 := Lib.hid (J9.out.below hl)
  have W10 := Lib.hid (W9.out.below hl W9.out.lt)
  have Q10 := Lib.hid (Q9.out.below hl)
  have G10 := Lib.hid (G9.out.below hl G9.out.lt)
  clear hl L9 J9 W9 Q9 G9 
  go_wp2_with fail
  refine (markStringS_one gg m cg L rg w10 G10.out HM.out (by omega)).mono ?_
  rintro e w11 ⟨rfl, mm, gr⟩
  have M11 := Lib.hid mm
  have L11 := Lib.hid (L10.out.grown gr L10.out.size (fun j hj => by cases hj; exact GG.out))
  have J11 := Lib.hid (J10.out.grown gr (fun e => NJG.out (Option.some.inj e)))
  have W11 := Lib.hid (W10.out.grown gr (fun e => NWG.out (Option.some.inj e)))
  have Q11 := Lib.hid (Q10.out.grown gr (fun e => NQG.out (Option.some.inj e)))
  clear gr L10 J10 W10 Q10 G10 mm
  have q0 : ¬ (1 : Int) + (m : Int) < 0 := by omega
  have q1 : ((1 : Int) + (m : Int) != 1 + (m : Int)) = false := by simp
  go_wp2_with fail
  refine (heldStringS_one gg m cg rg w11 M11.out (by omega)).mono ?_
  rintro e w12 ⟨rfl, hl⟩
  have L12 := Lib.hid (L11.out.trans (hl.mono L11.out.size))
  have J12 := Lib.hid (J11.out.below hl)
  have W12 := Lib.hid (W11.out.below hl W11.out.lt)
  have Q12 := Lib.hid (Q11.out.below hl)
  have M12 := Lib.hid (M11.out.below hl M11.out.lt)
  clear hl L11 J11 W11 Q11 M11 
  obtain ⟨x0, x1⟩ := J12.out
  go_wp2_with fail
  refine (TR.out _ L12.out).mono ?_
  rintro e w13 ⟨gt, rfl, hb, hg, hl⟩
  have T13 := Lib.hid hb
  have L13 := Lib.hid (L12.out.trans (hl.mono L12.out.size))
  have J13 := Lib.hid (J12.out.below hl)
  have W13 := Lib.hid (W12.out.below hl W12.out.lt)
  have Q13 := Lib.hid (Q12.out.below hl)
  have M13 := Lib.hid (M12.out.below hl M12.out.lt)
  clear hl L12 J12 W12 Q12 M12 hb hg x0 x1
  go_wp2_with fail
  refine (IM.out _ w13 T13.out).mono ?_
  rintro e w14 ⟨gh, m', ch, rh, rfl, hm, hcg, hg, hb, hl⟩
  obtain rfl : m = m' := HM.out.symm.trans hm
  have H14 := Lib.hid hb
  have L14 := Lib.hid (L13.out.trans (hl.mono L13.out.size))
  have J14 := Lib.hid (J13.out.below hl)
  have W14 := Lib.hid (W13.out.below hl W13.out.lt)
  have Q14 := Lib.hid (Q13.out.below hl)
  have M14 := Lib.hid (M13.out.below hl M13.out.lt)
  clear hl L13 J13 W13 Q13 M13 T13 hm hcg hg hb
  go_wp2_with fail
  refine (EQ.out gh gw m ch cw rh rw w14 HM.out hmn H14.out W14.out).mono ?_
  rintro e w15 ⟨rfl, hl⟩
  have L15 := Lib.hid (L14.out.trans (hl.mono L14.out.size))
  have J15 := Lib.hid (J14.out.below hl)
  have Q15 := Lib.hid (Q14.out.below hl)
  have M15 := Lib.hid (M14.out.below hl M14.out.lt)
  clear hl L14 J14 W14 Q14 M14 H14 
  go_wp2_with fail
  refine (heldStringS_one gg m cg rg w15 M15.out (by omega)).mono ?_
  rintro e w16 ⟨rfl, hl⟩
  have L16 := Lib.hid (L15.out.trans (hl.mono L15.out.size))
  have J16 := Lib.hid (J15.out.below hl)
  have Q16 := Lib.hid (Q15.out.below hl)
  clear hl L15 J15 Q15 M15 
  go_wp2
  go_ret
  exact ⟨rfl, L16.out⟩

end Go.Proofs.Ytkpcanigdppegaa.LawCutsOf
