/- The law FnSets returns true at every slice of bytes and turns nothing that was there: for each name and type the records are found, and the sets together are the list. -/
import Derived.Test.YtaahaepgabcebaaDrawSu
import Derived.Test.YtaahaepgabcebaaSumM
import Derived.Test.YtaahaepgabcebaaKeyI
import Derived.Test.YtaahaepgabcebaaKeyS
import Derived.Test.YtaahaepgabcebaaSetI
import Derived.Test.YtaahaepgabcebaaSetS
import Derived.Test.YtaahaepgabcebaaWt
import Derived.Test.YtaahaepgabcebaaLt
import Derived.Test.YtaahaepgabcebaaSameR
import Derived.Test.YtaahaepgabcebaaSame
import Derived.Test.YtaahaepgabcebaaBoxR
import Derived.Deep.RegionHeld3
namespace Go.Proofs.Ytaahaepgabcebaa.LawSets
open Go.RowKit Go.Proofs.Ytaahaepgabcebaa.Mem Go.Proofs.Ytaahaepgabcebaa.MemR Go.Proofs.Ytaahaepgabcebaa.SetMath Go.Proofs.Ytaahaepgabcebaa.MemQ Go.Proofs.Ytaahaepgabcebaa.GrpM Go.Proofs.Ytaahaepgabcebaa.SumM Go.Proofs.Ytaahaepgabcebaa.SameR Go.Proofs.Ytaahaepgabcebaa.BoxR Go.Proofs.Ytaahaepgabcebaa.Same Go.Proofs.Ytaahaepgabcebaa.DrawR Go.Proofs.Ytaahaepgabcebaa.DrawSu Go.Proofs.Ytaahaepgabcebaa.Wt

/-- Nothing of w has been turned. A def, so that no step of a walk opens it. -/
def Sw (w w' : World) : Prop := Below w.heap.size w w'
theorem keptQ {w0 w w' : World} {g o : Nat} {q : Key} (m : (w.cell? ⟨g, o, none⟩ = some (.string q.name) ∧ w.cell? ⟨g, o + 1, none⟩ = some (.int .i64 q.ty)) ∧ Sw w0 w) (hl : Below w.heap.size w w') :
    (w'.cell? ⟨g, o, none⟩ = some (.string q.name) ∧ w'.cell? ⟨g, o + 1, none⟩ = some (.int .i64 q.ty)) ∧ Sw w0 w' :=
  ⟨⟨(hl.cell (p := ⟨g, o, none⟩) (World.block_lt_of_cell? _ _ m.1.1)).trans m.1.1, (hl.cell (p := ⟨g, o + 1, none⟩) (World.block_lt_of_cell? _ _ m.1.2)).trans m.1.2⟩, m.2.trans (hl.mono m.2.size)⟩
theorem keptQ_draw {w0 w : World} {g o : Nat} {q : Key} (m : (w.cell? ⟨g, o, none⟩ = some (.string q.name) ∧ w.cell? ⟨g, o + 1, none⟩ = some (.int .i64 q.ty)) ∧ Sw w0 w) : (w.drew.cell? ⟨g, o, none⟩ = some (.string q.name) ∧ w.drew.cell? ⟨g, o + 1, none⟩ = some (.int .i64 q.ty)) ∧ Sw w0 w.drew := keptQ m ((Below.refl _ _).drew)

set_option maxRecDepth 100000 in
set_option maxHeartbeats 16000000 in
theorem walk (A : Option Addr) (n c : Nat) (l : List UInt8) (w : World) (hs : Sl w w.heap.size A n l) (_hc : n ≤ c) (_hnil : A = none → n = 0 ∧ c = 0) :
    Calls Try.prog 3 #[.slice A n c] w fun e w' => e = .returned (.bool true) ∧ Below w.heap.size w w' := by
  have mixed : Try.prog.follows .mixedOrders = true := by kernel_rfl
  by_cases hbig : n ≤ 1048576
  case neg =>
    go_enter Try.func3, Try.ntmps3
    go_wp2_with fail
    refine (big_yes A n c w hbig).mono ?_
    rintro e w1 ⟨rfl, rfl⟩
    go_wp2
    go_ret
    exact ⟨rfl, Below.refl _ _⟩
  have HS := Lib.hid hs
  clear hs
  go_enter Try.func3, Try.ntmps3
  go_wp2_with fail
  refine (big_no A n c w hbig).mono ?_
  rintro e w0 ⟨rfl, rfl⟩
  go_wp2_with fail
  refine (drawKeysOf_any A n c l w HS.out hbig).mono ?_
  rintro e w1 ⟨gp, mp, cp, P, rfl, hmp, -, hP, hl⟩
  have P1 := Lib.hid hP
  have PN := Lib.hid hP.1
  have L1 := Lib.hid hl
  clear hP hl
  go_wp2_with fail
  refine (drawSetOf_any A n c l _ ((HS.out.below L1.out).wider L1.out.size) hbig).mono ?_
  rintro e w2 ⟨ga, ma, ca, Q, s, t, rfl, hma, -, hQ, hl⟩
  have A2 := Lib.hid hQ
  have QN := Lib.hid hQ.1
  have L2 := Lib.hid (L1.out.trans (hl.mono L1.out.size))
  have P2 := Lib.hid (P1.out.on hl)
  clear hl L1 P1 hQ
  go_wp2_with fail
  refine (drawWithTtl_any A n c l _ ((HS.out.below L2.out).wider L2.out.size) hbig).mono ?_
  rintro e w3 ⟨gv, mv, cv, V, tt, rfl, hmv, -, hV, hl⟩
  have V3 := Lib.hid hV
  have VN := Lib.hid hV.1
  have L3 := Lib.hid (L2.out.trans (hl.mono L2.out.size))
  have P3 := Lib.hid (P2.out.on hl)
  have A3 := Lib.hid (A2.out.on hl)
  clear hl L2 P2 A2 hV
  go_wp2_with fail
  refine (KeyI.impl gp 0 mp cp P _ P3.out (by omega)).mono ?_
  rintro e w4 ⟨gk, mk, ck, rk, rfl, hk, -, -, hb, hl⟩
  have K4 := Lib.hid hb
  have KN := Lib.hid hk
  have hmk : mk ≤ 6 := by have h1 := len_uq (kl P); have h2 := kl_len P; have h3 := PN.out; omega
  have L4 := Lib.hid (L3.out.trans (hl.mono L3.out.size))
  have P4 := Lib.hid (P3.out.on hl)
  have A4 := Lib.hid (A3.out.on hl)
  have V4 := Lib.hid (V3.out.on hl)
  clear hl L3 P3 A3 V3 hb hk
  have CV := Lib.hid (cov_uq P)
  have CN := Lib.hid (nodup_uq (kl P))
  have SM := Lib.hid (fun q (h : q ∈ uq (kl P)) => sq_some (l := P) h)
  have HU : Hid (∀ W W' : World, True) := fun _ _ => trivial
  clear HU
  obtain ⟨U, hU⟩ : ∃ U, uq (kl P) = U := ⟨_, rfl⟩
  have HUE := Lib.hid hU
  rw [hU] at K4 KN CV CN SM
  clear hU
  go_wp2
  go_loopw [10, 11] (fun nn i wr => ∃ j x : Nat, j ≤ mk ∧ x ≤ 6 ∧ i = .int .i64 (j : Int) ∧ nn = .int .i64 (x : Int) ∧ Hid (x = cov (U.take j) P) ∧ Hid (Below w4.heap.size w4 wr)) (fun _ i _ => mk - (intOf i).toNat)
  case atStart => exact ⟨0, 0, Nat.zero_le _, by omega, rfl, rfl, (cov_zero U P).symm, Below.refl _ _⟩
  case round =>
    obtain ⟨j, x, hj, hx6, rfl, rfl, HX, HB⟩ := hrel
    have LW := Lib.hid (L4.out.trans (HB.out.mono L4.out.size))
    have PW := Lib.hid (P4.out.on HB.out)
    by_cases hlt : j < mk
    · have hjU : j < U.length := by rw [KN.out]; exact hlt
      have KQ : Hid (Cq wr gk (j * 2) U[j]) := (bk_cq K4.out j hjU).below HB.out K4.out.lt
      have HC := Lib.hid (cov_step (l := P) (k := j) hjU rfl)
      have HP0 := Lib.hid (SM.out U[j] (List.getElem_mem hjU))
      generalize U[j] = q at *
      have HLE : Hid ((sq q P).length ≤ mp) := show _ ≤ _ by have h1 := sf_len q.name q.ty P; have h2 := PN.out; have h3 : (sq q P).length ≤ P.length := h1; omega
      have CS : Hid (∀ W : World, Sw wr W → Calls Try.prog 16 #[.slice (some ⟨gp, 0, none⟩) mp cp, .string q.name, .int .i64 q.ty] W (GivesL W (sq q P))) := fun W hW => SetI.impl q.name q.ty gp 0 mp cp P W (PW.out.on hW) (by omega)
      have S0 : (wr.cell? ⟨gk, j * 2, none⟩ = some (.string q.name) ∧ wr.cell? ⟨gk, j * 2 + 1, none⟩ = some (.int .i64 q.ty)) ∧ Sw wr wr := ⟨KQ.out, Below.refl _ _⟩
      have v0 : Sw wr wr.drew := (Below.refl _ _).drew
      go_wp2_with fail
      go_region_held3 (fun w' => (w'.cell? ⟨gk, j * 2, none⟩ = some (.string q.name) ∧ w'.cell? ⟨gk, j * 2 + 1, none⟩ = some (.int .i64 q.ty)) ∧ Sw wr w')
        (first | with_reducible exact S0 | with_reducible assumption | exact keptQ (by assumption) hl | exact keptQ_draw S0 | fail)
        (first
          | (go_at_call 16; (with_reducible refine (CS.out _ v0).mono ?_); rintro e z1 ⟨gs, ms, cs, rs, rfl, hms, -, -, hbs, hl⟩)
          | fail)
      rename_i hH
      have hz : Below wr.heap.size wr z1 := hH.2
      have LZ := Lib.hid (LW.out.trans (hz.mono LW.out.size))
      have HBZ := Lib.hid (HB.out.trans (hz.mono HB.out.size))
      have BZ := Lib.hid hbs
      have HMS := Lib.hid hms
      have hms0 : 0 < ms := by have := HP0.out; omega
      have hmm : ms ≤ 6 := by have := HLE.out; omega
      have hl0 : 0 < (sq q P).length := HP0.out
      have LE := mn_first_le (sq q P) hl0
      have LC : Hid (∀ W : World, Below z1.heap.size z1 W → Calls Try.prog 17 #[.slice (some ⟨gs, 0, none⟩) ms cs] W fun e w' => e = .returned (.int .i64 (mn (sq q P))) ∧ Below W.heap.size W w') := fun W hW => Lt.impl _ ms cs (sq q P) W ((bk_sr BZ.out HMS.out).on hW) (by omega)
      have x0 : ∀ d os, (Sort.grow (redrawn z1 d) os).cell? ⟨gs, 2, none⟩ = some (.int .i64 (sq q P)[0].ttl) := cell_regrown (by have := (bk_ce BZ.out 0 hl0).2.2.1; simpa using this)
      have HXN := Lib.hid (show x + ms = cov (U.take (j + 1)) P from by rw [HC.out, ← HX.out, HMS.out])
      have hx7 : x + ms ≤ 6 := by have h1 := HXN.out; have h2 := cov_le U P (j + 1); have h3 := CV.out; have h4 := PN.out; omega
      have q0 : ((ms : Int) == 0) = false := by simp; omega
      have q1 : decide ((sq q P)[0].ttl < mn (sq q P)) = false := by simpa using LE
      generalize mn (sq q P) = mv1 at *
      generalize (sq q P)[0].ttl = fv1 at *
      clear hH hz hl hbs hms S0 v0 CS KQ HC HP0 HLE HX HB LW PW
      go_wp2_with fail
      refine wp_region_quiet_below (by assumption) (by kernel_rfl) ?_
      repeat (quiet_step (first | (go_at_call 17; exact in_class LC.out)))
      refine wpQuiet_nil ?_
      intro z2 hw2
      have L2 := Lib.hid (of_class hw2)
      have HB2 := Lib.hid (HBZ.out.trans (L2.out.mono HBZ.out.size))
      clear hw2 x0 LC L2
      go_wp2
      go_roundw
      case rel => exact ⟨j + 1, x + ms, by omega, hx7, by go_num, by go_num, HXN.out, HB2.out⟩
      case measure => simp [intOf]; omega
    · obtain rfl : mk = j := by omega
      have HXX : Hid (x = mp) := show _ = _ by have h := HX.out; rw [take_all KN.out, CV.out, PN.out] at h; exact h
      have xe : ((x : Int) == (mp : Int)) = true := by rw [HXX.out]; simp
      have RS : Hid (∀ (W : World) (g h m c c' : Nat) (r r' : List Value) (X : List Rec), X.length = m → m ≤ 6 → Bk W g 37 (fl X ++ r) → Bk W h 37 (fl X ++ r') → Calls Try.prog 19 #[.slice (some ⟨g, 0, none⟩) m c, .slice (some ⟨h, 0, none⟩) m c'] W fun e w' => e = .returned (.bool true) ∧ Below W.heap.size W w') :=
        fun W g h m c c' r r' X hm h6 h1 h2 => (sm_true (l := X) rfl) ▸ SameR.recs _ _ m c m c' X X W (bk_sr h1 hm) (bk_sr h2 hm) (by omega) (by omega)
      have L20 := LW
      have P20 := PW
      have A20 := Lib.hid (A4.out.on HB.out)
      have V20 := Lib.hid (V4.out.on HB.out)
      have hq1 := sf_len s t Q
      have hq2 : (V.map (SetMath.wr tt)).length = V.length := List.length_map _
      clear LW PW HB HX CV CN SM
      go_wp2_with fail
      refine (KeyS.spec gp 0 mp cp P _ P20.out (by omega)).mono ?_
      rintro e w21 ⟨gk2, mk2, ck2, rk2, rfl, hk, -, -, -, hl⟩
      obtain rfl : mk = mk2 := KN.out.symm.trans ((congrArg List.length HUE.out).symm.trans hk)
      have ke : ((mk : Int) != (mk : Int)) = false := by simp
      have L21 := Lib.hid (L20.out.trans (hl.mono L20.out.size))
      have P21 := Lib.hid (P20.out.on hl)
      have A21 := Lib.hid (A20.out.on hl)
      have V21 := Lib.hid (V20.out.on hl)
      clear hl L20 P20 A20 V20 hk
      go_wp2_with fail
      refine (SetI.impl s t ga 0 ma ca Q _ A21.out (by omega)).mono ?_
      rintro e w22 ⟨g1, m1, c1, r1, rfl, hm, -, -, hb, hl⟩
      have X1_22 := Lib.hid hb
      have XN := Lib.hid hm
      have hm1 : m1 ≤ 6 := by have := QN.out; omega
      have L22 := Lib.hid (L21.out.trans (hl.mono L21.out.size))
      have P22 := Lib.hid (P21.out.on hl)
      have A22 := Lib.hid (A21.out.on hl)
      have V22 := Lib.hid (V21.out.on hl)
      clear hl L21 P21 A21 V21 hb hm
      go_wp2_with fail
      refine (SetS.spec s t ga 0 ma ca Q _ A22.out (by omega)).mono ?_
      rintro e w23 ⟨g2, m2, c2, r2, rfl, hm, -, -, hb, hl⟩
      obtain rfl : m1 = m2 := XN.out.symm.trans hm
      have X2_23 := Lib.hid hb
      have L23 := Lib.hid (L22.out.trans (hl.mono L22.out.size))
      have P23 := Lib.hid (P22.out.on hl)
      have V23 := Lib.hid (V22.out.on hl)
      have X1_23 := Lib.hid (X1_22.out.below hl X1_22.out.lt)
      clear hl L22 P22 A22 V22 X1_22 hb hm
      go_wp2_with fail
      refine (RS.out _ g1 g2 m1 c1 c2 r1 r2 (sf s t Q) XN.out hm1 X1_23.out X2_23.out).mono ?_
      rintro e w24 ⟨rfl, hl⟩
      have L24 := Lib.hid (L23.out.trans (hl.mono L23.out.size))
      have P24 := Lib.hid (P23.out.on hl)
      have V24 := Lib.hid (V23.out.on hl)
      clear hl L23 P23 V23 X1_23 X2_23 
      go_wp2_with fail
      refine (Wt.impl tt gv 0 mv cv V _ V24.out (by omega)).mono ?_
      rintro e w25 ⟨g3, m3, c3, r3, rfl, hm, -, -, hb, hl⟩
      have X3_25 := Lib.hid hb
      have YN := Lib.hid hm
      have hm3 : m3 ≤ 6 := by have := VN.out; omega
      have L25 := Lib.hid (L24.out.trans (hl.mono L24.out.size))
      have P25 := Lib.hid (P24.out.on hl)
      have V25 := Lib.hid (V24.out.on hl)
      clear hl L24 P24 V24 hb hm
      go_wp2_with fail
      refine (Wt.spec tt gv 0 mv cv V _ V25.out (by omega)).mono ?_
      rintro e w26 ⟨g4, m4, c4, r4, rfl, hm, -, -, hb, hl⟩
      obtain rfl : m3 = m4 := YN.out.symm.trans hm
      have X4_26 := Lib.hid hb
      have L26 := Lib.hid (L25.out.trans (hl.mono L25.out.size))
      have P26 := Lib.hid (P25.out.on hl)
      have V26 := Lib.hid (V25.out.on hl)
      have X3_26 := Lib.hid (X3_25.out.below hl X3_25.out.lt)
      clear hl L25 P25 V25 X3_25 hb hm
      go_wp2_with fail
      refine (RS.out _ g3 g4 m3 c3 c4 r3 r4 (V.map (SetMath.wr tt)) YN.out hm3 X3_26.out X4_26.out).mono ?_
      rintro e w27 ⟨rfl, hl⟩
      have L27 := Lib.hid (L26.out.trans (hl.mono L26.out.size))
      have P27 := Lib.hid (P26.out.on hl)
      have V27 := Lib.hid (V26.out.on hl)
      clear hl L26 P26 V26 X3_26 X4_26 
      go_wp2_with fail
      refine (Lt.impl _ mp cp P _ P27.out (by omega)).mono ?_
      rintro e w28 ⟨rfl, hl⟩
      have L28 := Lib.hid (L27.out.trans (hl.mono L27.out.size))
      have P28 := Lib.hid (P27.out.on hl)
      have V28 := Lib.hid (V27.out.on hl)
      clear hl L27 P27 V27 
      go_wp2_with fail
      refine (Lt.spec _ mp cp P _ P28.out (by omega)).mono ?_
      rintro e w29 ⟨rfl, hl⟩
      have L29 := Lib.hid (L28.out.trans (hl.mono L28.out.size))
      have V29 := Lib.hid (V28.out.on hl)
      clear hl L28 P28 V28 
      have le1 : (mn P != mn P) = false := by simp
      by_cases hv0 : mv = 0
      · have ve : ((mv : Int) == 0) = true := by rw [hv0]; rfl
        go_wp2
        go_ret
        exact ⟨rfl, L29.out⟩
      have ve : ((mv : Int) == 0) = false := by simp; omega
      have TT : Hid (mn (V.map (SetMath.wr tt)) = tt) := mn_wr tt V (by have := VN.out; omega)
      go_wp2_with fail
      refine (Wt.impl tt gv 0 mv cv V _ V29.out (by omega)).mono ?_
      rintro e w30 ⟨g5, m5, c5, r5, rfl, hm, -, -, hb, hl⟩
      have X5_30 := Lib.hid hb
      have ZN := Lib.hid hm
      have hm5 : m5 ≤ 6 := by have := VN.out; omega
      have L30 := Lib.hid (L29.out.trans (hl.mono L29.out.size))
      clear hl L29 V29 hb hm
      go_wp2_with fail
      refine (Lt.impl _ m5 c5 (V.map (SetMath.wr tt)) _ (bk_sr X5_30.out ZN.out) (by omega)).mono ?_
      rintro e w31 ⟨rfl, hl⟩
      have L31 := Lib.hid (L30.out.trans (hl.mono L30.out.size))
      clear hl L30 X5_30 
      rw [TT.out]
      have te : (tt == tt) = true := by simp
      go_wp2
      go_ret
      exact ⟨rfl, L31.out⟩
end Go.Proofs.Ytaahaepgabcebaa.LawSets
