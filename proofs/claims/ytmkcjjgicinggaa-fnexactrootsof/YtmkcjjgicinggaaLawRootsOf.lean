/- The law FnExactRootsOf returns true at every name space, and turns nothing that was there: RootsOf answers as its model. -/
import Derived.Test.YtmkcjjgicinggaaSzF
import Derived.Test.YtmkcjjgicinggaaToF
import Derived.Test.YtmkcjjgicinggaaEqF
import Derived.Test.YtmkcjjgicinggaaMarkF
import Derived.Test.YtmkcjjgicinggaaRootS
import Derived.Test.YtmkcjjgicinggaaRootI
import Derived.Test.YtmkcjjgicinggaaEqI
import Derived.Test.YtmkcjjgicinggaaMarkI
import Derived.Deep.RegionHeld3
namespace Go.Proofs.Ytmkcjjgicinggaa.LawRootsOf
open Go.RowKit Go.Proofs.Ytmkcjjgicinggaa.Mem Go.Proofs.Ytmkcjjgicinggaa.MemR Go.Proofs.Ytmkcjjgicinggaa.MemZ Go.Proofs.Ytmkcjjgicinggaa.MemF Go.Proofs.Ytmkcjjgicinggaa.SzZ Go.Proofs.Ytmkcjjgicinggaa.SzF Go.Proofs.Ytmkcjjgicinggaa.ToF Go.Proofs.Ytmkcjjgicinggaa.EqF Go.Proofs.Ytmkcjjgicinggaa.MarkF Go.Proofs.Ytmkcjjgicinggaa.RoMath Go.Proofs.Ytmkcjjgicinggaa.SetMath Go.Proofs.Ytmkcjjgicinggaa.MemI Go.Proofs.Ytmkcjjgicinggaa.EqI Go.Proofs.Ytmkcjjgicinggaa.MarkI

theorem kept2f {w0 w w' : World} {g k : Nat} {x y x' y' : Value} (m : (Fx w g x y ∧ Fx w k x' y') ∧ Svz w0 w) (hl : Below w.heap.size w w') : (Fx w' g x y ∧ Fx w' k x' y') ∧ Svz w0 w' := ⟨⟨m.1.1.below hl, m.1.2.below hl⟩, m.2.trans (hl.mono m.2.size)⟩
theorem kept2f_draw {w0 w : World} {g k : Nat} {x y x' y' : Value} (m : (Fx w g x y ∧ Fx w k x' y') ∧ Svz w0 w) : (Fx w.drew g x y ∧ Fx w.drew k x' y') ∧ Svz w0 w.drew := kept2f m ((Below.refl _ _).drew)

theorem mws_le : ∀ (zs : List Zn) (gs : List Nat), mws (zs.zip gs) ≤ zs.length + 6 * zws zs
  | [], _ => Nat.zero_le _
  | z :: zs, [] => Nat.zero_le _
  | z :: zs, g :: gs => by
    have h := mws_le zs gs
    have e1 : mws ((z :: zs).zip (g :: gs)) = (1 + 6 * z.l.length) + mws (zs.zip gs) := by unfold mws; rw [List.zip_cons_cons, List.map_cons, List.sum_cons]
    have e2 : zws (z :: zs) = zw z + zws zs := by unfold zws; rw [List.map_cons, List.sum_cons]
    have e3 : z.l.length ≤ zw z := by unfold zw; omega
    rw [e1, e2, List.length_cons]
    omega

/-- A copy of the name space, all of it the call's own. -/
def Of (zs : List Zn) (ps : List Pst) (lo g : Nat) (gs : List Nat) (h : Nat) (W : World) : Prop := Oz W lo g zs gs ∧ Bk W h 42 (fp ps)
theorem Of.below {zs : List Zn} {ps : List Pst} {lo g : Nat} {gs : List Nat} {h : Nat} {W W' : World} (k : Of zs ps lo g gs h W) (hb : Below W.heap.size W W') : Of zs ps lo g gs h W' := ⟨k.1.below hb, k.2.below hb k.2.lt⟩
theorem Of.sf {zs : List Zn} {ps : List Pst} {lo g : Nat} {gs : List Nat} {h n m : Nat} {W : World} (k : Of zs ps lo g gs h W) (hn : zs.length = n) (hm : ps.length = m) : Sf True W (some ⟨g, 0, none⟩) n zs (some ⟨h, 0, none⟩) m ps := ⟨k.1.sz hn, bk_sp0 k.2 hm⟩
theorem Of.lt {zs : List Zn} {ps : List Pst} {lo g : Nat} {gs : List Nat} {h : Nat} {W : World} (k : Of zs ps lo g gs h W) : ∀ j ∈ h :: g :: gs, j < W.heap.size := fun j hj => by
  rcases List.mem_cons.1 hj with rfl | hj
  · exact k.2.lt
  · exact Nat.lt_of_not_le fun hx => oz_high k.1 hx hj

set_option maxHeartbeats 8000000 in
theorem walk (A : Option Addr) (n c : Nat) (zs : List Zn) (P : Option Addr) (m d : Nat) (ps : List Pst) (w : World) (hs : Sf False w A n zs P m ps) (hn : n ≤ 9223372036854775807) (hm : m ≤ 9223372036854775807) (hz : ∀ z ∈ zs, SmallZ z) (hp : ∀ p ∈ ps, p.apex.size ≤ 9223372036854775807) :
    Calls Try.prog 3 #[.agg #[.slice A n c, .slice P m d]] w fun e w' => e = .returned (.bool true) ∧ Below w.heap.size w w' := by
  have S0 := Lib.hid hs
  have Z0 := Lib.hid hz
  have P0 := Lib.hid hp
  clear hs hz hp
  have L0 := Lib.hid ((Below.refl w.heap.size w).alloc (Nat.le_refl _) (.cells #[.slice A n c, .slice P m d] 25))
  have J0 := Lib.hid (fx_new w 25 (.slice A n c) (.slice P m d))
  go_enter Try.func3, Try.ntmps3
  obtain ⟨x0, x1⟩ := J0.out
  go_wp2_with fail
  refine (szForest_any False A n c zs P m d ps 1048576 _ (by omega) (by omega) (S0.out.on L0.out) hn hm Z0.out P0.out).mono ?_
  rintro e w1 ⟨y, rfl, hy0, hy1, hy, hl⟩
  have Y0 := Lib.hid hy
  have L1 := Lib.hid (L0.out.trans (hl.mono L0.out.size))
  have J1 := Lib.hid (J0.out.below hl)
  clear hy hl L0 J0 x0 x1
  by_cases hneg : y < 0
  · go_wp2
    go_ret
    exact ⟨rfl, L1.out⟩
  have Y1 := Lib.hid (Y0.out (by omega))
  clear Y0
  have HN : Hid (zs.length = n) := S0.out.1.1
  have HM : Hid (ps.length = m) := S0.out.2.1
  have bn : n ≤ 1048576 := by have := Y1.out; have := HN.out; omega
  have bm : m ≤ 1048576 := by have := Y1.out; have := HM.out; omega
  have HZ : Hid (∀ z ∈ zs, z.apex.size ≤ 400000000 ∧ z.l.length ≤ 400000000) := fun z hz => by
    have := Y1.out
    have h1 := zws_le zs z hz
    unfold zw at h1
    constructor <;> omega
  have HW : Hid (∀ gs, 1 + mws (zs.zip gs) + 2 * m ≤ 20000000) := fun gs => by
    have h1 := mws_le zs gs
    have := Y1.out
    have := HM.out
    omega
  clear Y1 Z0 P0
  have TR : Hid (∀ W : World, Below w.heap.size w W → Calls Try.prog 6 #[.agg #[.slice A n c, .slice P m d]] W fun e w' => ∃ g gs h, e = .returned (.agg #[.slice (some ⟨g, 0, none⟩) n n, .slice (some ⟨h, 0, none⟩) m m]) ∧ Of zs ps W.heap.size g gs h w' ∧ h ∉ g :: gs ∧ (∀ j ∈ h :: g :: gs, W.heap.size ≤ j) ∧ Below W.heap.size W w') :=
    fun W hW => (toForest_any False A n c zs P m d ps W (S0.out.on hW) (by omega) (by omega) (fun z hz => (HZ.out z hz).2)).mono fun e w' ⟨g, gs, h, h1, h2, h3, h4, h5, h6⟩ => ⟨g, gs, h, by rw [h1, HN.out, HM.out], ⟨h2, h3⟩, h4, fun j hj => by
      rcases List.mem_cons.1 hj with rfl | hj
      · exact h5
      · exact h2.2.2.2.2 j hj, h6⟩
  have SP : Hid (∀ (g h : Nat) (W : World), Sf True W (some ⟨g, 0, none⟩) n zs (some ⟨h, 0, none⟩) m ps → Calls Try.prog 5 #[.agg #[.slice (some ⟨g, 0, none⟩) n n, .slice (some ⟨h, 0, none⟩) m m]] W fun e w' => ∃ g u c r, e = .returned (.slice (some ⟨g, 0, none⟩) u c) ∧ (uq (ro ps)).length = u ∧ u ≤ c ∧ W.heap.size ≤ g ∧ Bk w' g 3 ((uq (ro ps)).map iv ++ r) ∧ Below W.heap.size W w') :=
    fun g h W hW => RootS.spec _ n n _ m m ps W hW.2 (by omega)
  have IM : Hid (∀ (g h : Nat) (W : World), Sf True W (some ⟨g, 0, none⟩) n zs (some ⟨h, 0, none⟩) m ps → Calls Try.prog 7 #[.agg #[.slice (some ⟨g, 0, none⟩) n n, .slice (some ⟨h, 0, none⟩) m m]] W fun e w' => ∃ g u c r, e = .returned (.slice (some ⟨g, 0, none⟩) u c) ∧ (uq (ro ps)).length = u ∧ u ≤ c ∧ W.heap.size ≤ g ∧ Bk w' g 3 ((uq (ro ps)).map iv ++ r) ∧ Below W.heap.size W w') :=
    fun g h W hW => RootI.impl _ n n _ m m ps W hW.2 (by omega)
  have HLL : Hid ((uq (ro ps)).length ≤ m) := by
    show _ ≤ _
    have := HM.out
    have h1 := len_uq (ro ps); have h2 := ro_len ps; omega
  generalize uq (ro ps) = L at *
  have EQ : Hid (∀ (g h u c c' : Nat) (r r' : List Value) (W : World), L.length = u → u ≤ m → Bk W g 3 (L.map iv ++ r) → Bk W h 3 (L.map iv ++ r') → Calls Try.prog 8 #[.slice (some ⟨g, 0, none⟩) u c, .slice (some ⟨h, 0, none⟩) u c'] W fun e w' => e = .returned (.bool true) ∧ Below W.heap.size W w') :=
    fun g h u c c' r r' W hm hmn h1 h2 => eqIntS_same _ _ u c c' L W (bk_si h1 hm) (bk_si h2 hm) (by omega)
  obtain ⟨x0, x1⟩ := J1.out
  go_wp2_with fail
  refine (TR.out _ L1.out).mono ?_
  rintro e w2 ⟨gv, gsv, hv, rfl, hb, -, -, hl⟩
  have V2 := Lib.hid (hb.sf HN.out HM.out)
  have L2 := Lib.hid (L1.out.trans (hl.mono L1.out.size))
  have J2 := Lib.hid (J1.out.below hl)
  clear hl L1 J1 hb x0 x1
  go_wp2_with fail
  refine (SP.out _ _ w2 V2.out).mono ?_
  rintro e w3 ⟨gw, u, cw, rw, rfl, hm', hcw, hg, hb, hl⟩
  have HU := Lib.hid hm'
  have hum : u ≤ m := by have := HLL.out; omega
  have W3 := Lib.hid hb
  have L3 := Lib.hid (L2.out.trans (hl.mono L2.out.size))
  have J3 := Lib.hid (J2.out.below hl)
  clear hl L2 J2 V2 hm' hcw hg hb
  obtain ⟨x0, x1⟩ := J3.out
  go_wp2_with fail
  refine (TR.out _ L3.out).mono ?_
  rintro e w4 ⟨gx, gs, hx, rfl, hb, hne, hlo, hl⟩
  have X4 := Lib.hid hb
  have NH := Lib.hid hne
  have NW : Hid (¬ gw ∈ hx :: gx :: gs) := fun e => by have h1 := W3.out.lt; have h2 := hlo _ e; omega
  have NJ : Hid (¬ w.heap.size ∈ hx :: gx :: gs) := fun e => by have h1 := J3.out.lt; have h2 := hlo _ e; omega
  have NLo : Hid (∀ j ∈ hx :: gx :: gs, w.heap.size ≤ j) := fun j hj => Nat.le_trans L3.out.size (hlo j hj)
  have NQ : Hid (¬ w4.heap.size ∈ hx :: gx :: gs) := fun e => by have h1 := hb.lt _ e; omega
  have L4 := Lib.hid (L3.out.trans (hl.mono L3.out.size))
  have J4 := Lib.hid (J3.out.below hl)
  have W4 := Lib.hid (W3.out.below hl W3.out.lt)
  clear hl L3 J3 W3 hb x0 x1 hne hlo
  have al : Below w4.heap.size w4 (w4.alloc (.cells #[.slice (some ⟨gx, 0, none⟩) n n, .slice (some ⟨hx, 0, none⟩) m m] 32)) := (Below.refl _ _).alloc (Nat.le_refl _) _
  have NWQ := Lib.hid (show gw < w4.heap.size from W4.out.lt)
  have L5 := Lib.hid (L4.out.trans (al.mono L4.out.size))
  have J5 := Lib.hid (J4.out.below al)
  have W5 := Lib.hid (W4.out.below al W4.out.lt)
  have X5 := Lib.hid (X4.out.below al)
  have Q5 := Lib.hid (fx_new w4 32 (.slice (some ⟨gx, 0, none⟩) n n) (.slice (some ⟨hx, 0, none⟩) m m))
  clear al L4 J4 X4 W4
  go_wp2_with fail
  refine (IM.out _ _ _ (X5.out.sf HN.out HM.out)).mono ?_
  rintro e w6 ⟨gg, u', cg, rg, rfl, hm', hcg, hg, hb, hl⟩
  obtain rfl : u = u' := HU.out.symm.trans hm'
  have G6 := Lib.hid hb
  have NWG := Lib.hid (show gw ≠ gg from fun e => by have := W5.out.lt; omega)
  have NG : Hid (¬ gg ∈ hx :: gx :: gs) := fun e => by have := X5.out.lt _ e; omega
  have GG := Lib.hid (Nat.le_trans L5.out.size hg)
  have NJG := Lib.hid (show w.heap.size ≠ gg from fun e => by have := J5.out.lt; omega)
  have NQG := Lib.hid (show w4.heap.size ≠ gg from fun e => by have := Q5.out.lt; omega)
  have L6 := Lib.hid (L5.out.trans (hl.mono L5.out.size))
  have J6 := Lib.hid (J5.out.below hl)
  have W6 := Lib.hid (W5.out.below hl W5.out.lt)
  have X6 := Lib.hid (X5.out.below hl)
  have Q6 := Lib.hid (Q5.out.below hl)
  clear hl L5 J5 W5 X5 Q5 hm' hcg hg hb
  generalize w4.heap.size = gq at *
  go_wp2_with fail
  refine (EQ.out gg gw u cg cw rg rw w6 HU.out hum G6.out W6.out).mono ?_
  rintro e w7 ⟨rfl, hl⟩
  have L7 := Lib.hid (L6.out.trans (hl.mono L6.out.size))
  have J7 := Lib.hid (J6.out.below hl)
  have W7 := Lib.hid (W6.out.below hl W6.out.lt)
  have X7 := Lib.hid (X6.out.below hl)
  have Q7 := Lib.hid (Q6.out.below hl)
  have G7 := Lib.hid (G6.out.below hl G6.out.lt)
  clear hl L6 J6 W6 X6 Q6 G6
  have TM : Hid (∀ W : World, (((W.cell? ⟨w.heap.size, 0, none⟩ = some (.slice A n c) ∧ W.cell? ⟨w.heap.size, 1, none⟩ = some (.slice P m d)) ∧ (W.cell? ⟨gq, 0, none⟩ = some (.slice (some ⟨gx, 0, none⟩) n n) ∧ W.cell? ⟨gq, 1, none⟩ = some (.slice (some ⟨hx, 0, none⟩) m m))) ∧ Svz w7 W) → Calls Try.prog 6 #[.agg #[.slice A n c, .slice P m d]] W fun e w' => ∃ g h, e = .returned (.agg #[.slice (some ⟨g, 0, none⟩) n n, .slice (some ⟨h, 0, none⟩) m m]) ∧ Sf True w' (some ⟨g, 0, none⟩) n zs (some ⟨h, 0, none⟩) m ps ∧ Below W.heap.size W w') := fun W hW => (TR.out W (L7.out.trans ((show Below w7.heap.size w7 W from hW.2).mono L7.out.size))).mono fun e w' ⟨g, gs, h, h1, h2, _, _, h5⟩ => ⟨g, h, h1, h2.sf HN.out HM.out, h5⟩
  have EQZ : Hid (∀ (W : World) (s t : Nat), (((W.cell? ⟨w.heap.size, 0, none⟩ = some (.slice A n c) ∧ W.cell? ⟨w.heap.size, 1, none⟩ = some (.slice P m d)) ∧ (W.cell? ⟨gq, 0, none⟩ = some (.slice (some ⟨gx, 0, none⟩) n n) ∧ W.cell? ⟨gq, 1, none⟩ = some (.slice (some ⟨hx, 0, none⟩) m m))) ∧ Svz w7 W) → Sf True W (some ⟨s, 0, none⟩) n zs (some ⟨t, 0, none⟩) m ps → Calls Try.prog 9 #[.agg #[.slice (some ⟨gx, 0, none⟩) n n, .slice (some ⟨hx, 0, none⟩) m m], .agg #[.slice (some ⟨s, 0, none⟩) n n, .slice (some ⟨t, 0, none⟩) m m]] W fun e w' => e = .returned (.bool true) ∧ Below W.heap.size W w') := fun W s t hW ht => eqForest_same True True _ _ _ _ n n n m m m zs ps W ((X7.out.sf HN.out HM.out).on (show Below w7.heap.size w7 W from hW.2)) ht (by omega) (by omega) (fun z hz => (HZ.out z hz).2)
  have SS0 : ((w7.cell? ⟨w.heap.size, 0, none⟩ = some (.slice A n c) ∧ w7.cell? ⟨w.heap.size, 1, none⟩ = some (.slice P m d)) ∧ (w7.cell? ⟨gq, 0, none⟩ = some (.slice (some ⟨gx, 0, none⟩) n n) ∧ w7.cell? ⟨gq, 1, none⟩ = some (.slice (some ⟨hx, 0, none⟩) m m))) ∧ Svz w7 w7 := ⟨⟨J7.out, Q7.out⟩, Below.refl _ _⟩
  go_wp2
  go_region_held3 (fun w' => ((w'.cell? ⟨w.heap.size, 0, none⟩ = some (.slice A n c) ∧ w'.cell? ⟨w.heap.size, 1, none⟩ = some (.slice P m d)) ∧ (w'.cell? ⟨gq, 0, none⟩ = some (.slice (some ⟨gx, 0, none⟩) n n) ∧ w'.cell? ⟨gq, 1, none⟩ = some (.slice (some ⟨hx, 0, none⟩) m m))) ∧ Svz w7 w')
    (first | with_reducible exact SS0 | with_reducible assumption | exact kept2f (by assumption) hl | exact kept2f_draw (by assumption) | fail)
    (first
      | (go_at_call 6; (with_reducible refine (TM.out _ (by assumption)).mono ?_); rintro e wt6 ⟨t1, t2, rfl, hb1, hl⟩)
      | (go_at_call 9; (with_reducible refine (EQZ.out _ _ _ (by assumption) hb1).mono ?_); rintro e w8 ⟨rfl, hl⟩)
      | fail)
  rename_i hH
  have hz : Below w7.heap.size w7 w8 := hH.2
  clear hH hb1 hl SS0 TM EQZ
  have L8 := Lib.hid (L7.out.trans (hz.mono L7.out.size))
  have J8 := Lib.hid (J7.out.below hz)
  have W8 := Lib.hid (W7.out.below hz W7.out.lt)
  have X8 := Lib.hid (X7.out.below hz)
  have Q8 := Lib.hid (Q7.out.below hz)
  have G8 := Lib.hid (G7.out.below hz G7.out.lt)
  clear hz L7 J7 W7 X7 Q7 G7
  obtain ⟨x0, x1⟩ := Q8.out
  go_wp2_with fail
  refine (markForest_any gx hx n m n m zs ps gs _ w8 X8.out.1 X8.out.2 NH.out HN.out HM.out (HW.out gs)).mono ?_
  rintro e w9 ⟨x, rfl, kp⟩
  have L9 := Lib.hid (below_kp L8.out kp L8.out.size NLo.out)
  have J9 := Lib.hid (fx_kp J8.out kp NJ.out)
  have W9 := Lib.hid (bk_kp W8.out kp NW.out)
  have G9 := Lib.hid (bk_kp G8.out kp NG.out)
  have hk0 : ¬ (x : Int) < 0 := by omega
  clear kp L8 J8 W8 X8 Q8 G8 x0 x1
  go_wp2_with fail
  refine (EQ.out gg gw u cg cw rg rw w9 HU.out hum G9.out W9.out).mono ?_
  rintro e w10 ⟨rfl, hl⟩
  have L10 := Lib.hid (L9.out.trans (hl.mono L9.out.size))
  have J10 := Lib.hid (J9.out.below hl)
  have W10 := Lib.hid (W9.out.below hl W9.out.lt)
  have G10 := Lib.hid (G9.out.below hl G9.out.lt)
  clear hl L9 J9 W9 G9
  go_wp2_with fail
  refine (markIntS_one gg u cg L rg w10 G10.out HU.out (by omega)).mono ?_
  rintro e w11 ⟨rfl, mm, gr⟩
  have M11 := Lib.hid mm
  have L11 := Lib.hid (L10.out.grown gr L10.out.size (fun j hj => by cases hj; exact GG.out))
  have J11 := Lib.hid (J10.out.grown gr (fun e => NJG.out (Option.some.inj e)))
  have W11 := Lib.hid (W10.out.grown gr (fun e => NWG.out (Option.some.inj e)))
  clear gr L10 J10 W10 G10 mm
  have q0 : ¬ (1 : Int) + (u : Int) < 0 := by omega
  have q1 : ((1 : Int) + (u : Int) != 1 + (u : Int)) = false := by simp
  go_wp2_with fail
  refine (heldIntS_one gg u cg rg w11 M11.out (by omega)).mono ?_
  rintro e w12 ⟨rfl, hl⟩
  have L12 := Lib.hid (L11.out.trans (hl.mono L11.out.size))
  have J12 := Lib.hid (J11.out.below hl)
  have W12 := Lib.hid (W11.out.below hl W11.out.lt)
  have M12 := Lib.hid (M11.out.below hl M11.out.lt)
  clear hl L11 J11 W11 M11
  obtain ⟨x0, x1⟩ := J12.out
  go_wp2_with fail
  refine (TR.out _ L12.out).mono ?_
  rintro e w13 ⟨gt, gst, ht, rfl, hb, -, -, hl⟩
  have T13 := Lib.hid (hb.sf HN.out HM.out)
  have L13 := Lib.hid (L12.out.trans (hl.mono L12.out.size))
  have W13 := Lib.hid (W12.out.below hl W12.out.lt)
  have M13 := Lib.hid (M12.out.below hl M12.out.lt)
  clear hl L12 J12 W12 M12 hb x0 x1
  go_wp2_with fail
  refine (IM.out _ _ w13 T13.out).mono ?_
  rintro e w14 ⟨gh, u', ch, rh, rfl, hm', hcg, hg, hb, hl⟩
  obtain rfl : u = u' := HU.out.symm.trans hm'
  have H14 := Lib.hid hb
  have L14 := Lib.hid (L13.out.trans (hl.mono L13.out.size))
  have W14 := Lib.hid (W13.out.below hl W13.out.lt)
  have M14 := Lib.hid (M13.out.below hl M13.out.lt)
  clear hl L13 W13 M13 T13 hm' hcg hg hb
  go_wp2_with fail
  refine (EQ.out gh gw u ch cw rh rw w14 HU.out hum H14.out W14.out).mono ?_
  rintro e w15 ⟨rfl, hl⟩
  have L15 := Lib.hid (L14.out.trans (hl.mono L14.out.size))
  have M15 := Lib.hid (M14.out.below hl M14.out.lt)
  clear hl L14 W14 M14 H14
  go_wp2_with fail
  refine (heldIntS_one gg u cg rg w15 M15.out (by omega)).mono ?_
  rintro e w16 ⟨rfl, hl⟩
  have L16 := Lib.hid (L15.out.trans (hl.mono L15.out.size))
  clear hl L15 M15
  go_wp2
  go_ret
  exact ⟨rfl, L16.out⟩

end Go.Proofs.Ytmkcjjgicinggaa.LawRootsOf
