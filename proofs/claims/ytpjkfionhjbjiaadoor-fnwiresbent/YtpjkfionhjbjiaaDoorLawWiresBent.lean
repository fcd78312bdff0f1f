/- The law FnWiresBent returns true on every slice that reads as bytes, where the library's variable internal/bytealg.MaxLen holds an int: what is read as a name is one, and there is an end to all pointers. -/
import Derived.Test.YtpjkfionhjbjiaaDoorDrawW
import Derived.Test.YtpjkfionhjbjiaaDoorPlace
import Derived.Test.YtpjkfionhjbjiaaDoorSame
import Derived.Test.YtpjkfionhjbjiaaDoorCodeName
import Derived.Test.YtpjkfionhjbjiaaDoorWireGood
namespace Go.Proofs.YtpjkfionhjbjiaaDoor.LawWiresBent
open Go.RowKit Go.Proofs.YtpjkfionhjbjiaaDoor.Mem Go.Proofs.YtpjkfionhjbjiaaDoor.Labels Go.Proofs.YtpjkfionhjbjiaaDoor.JoinSpec Go.Proofs.YtpjkfionhjbjiaaDoor.NameOk Go.Proofs.YtpjkfionhjbjiaaDoor.Same Go.Proofs.YtpjkfionhjbjiaaDoor.WireMath Go.Proofs.YtpjkfionhjbjiaaDoor.WalkSpec Go.Proofs.YtpjkfionhjbjiaaDoor.WireGood Go.Proofs.YtpjkfionhjbjiaaDoor.Place Go.Proofs.YtpjkfionhjbjiaaDoor.DrawW Go.Proofs.YtpjkfionhjbjiaaDoor.CodeName

/-- Both readings of a name answer these three, and the number of pointers. -/
def Reads (m cap : Nat) (lb : List UInt8) (x : Int) (T : ByteArray) (y : Int) (c j : Nat) : Prop :=
  ∀ (A : Option Addr) (w : World), Sl w w.heap.size A m lb →
    Calls Tryd.prog 21 #[.slice A m cap, .int .i64 x] w (fun e w' => e = .returned (.tuple #[.string T, .int .i64 y, .int .i64 (c : Int)]) ∧ Below w.heap.size w w') ∧
    (Env w → Calls Tryd.prog 18 #[.slice A m cap, .int .i64 x] w (fun e w' => e = .returned (.tuple #[.string T, .int .i64 y, .int .i64 (c : Int)]) ∧ Below w.heap.size w w')) ∧
    Calls Tryd.prog 25 #[.slice A m cap, .int .i64 x] w (fun e w' => e = .returned (.int .i64 (j : Int)) ∧ Below w.heap.size w w') ∧
    (Env w → Calls Tryd.prog 19 #[.slice A m cap, .int .i64 x] w (fun e w' => e = .returned (.int .i64 (j : Int)) ∧ Below w.heap.size w w'))
theorem reads (m cap : Nat) (lb : List UInt8) (x : Int) (hl : lb.length = m) (hm : m ≤ 1000000) (hc : m ≤ cap) :
    ∃ (T : ByteArray) (y : Int) (c j : Nat), Reads m cap lb x T y c j ∧ (c ≠ 0 → T = ⟨#[]⟩ ∧ y = 0) ∧ (c = 0 → Nm T = true ∧ x < y ∧ y ≤ (m : Int) ∧ (j : Int) ≤ (m : Int)) ∧ (dn lb x).1 = c ∧ Jo (dn lb x).2.1 = T := by
  obtain ⟨c, L, y, j, hR⟩ : ∃ c L y j, rn lb [] x x 0 (-1) = (c, L, y, j) := ⟨_, _, _, _, rfl⟩
  refine ⟨Jo L, y, c, j, fun A w hs => ⟨WalkSpec.getName A m cap lb x w _ hR hs (by omega) hc, fun he => NameGet.getName A m cap lb x w _ hR he hs (by omega) hc, WalkSpec.jumpsIn A m cap lb x w _ hR hs (by omega) hc, fun he => NameGet.jumpsIn A m cap lb x w _ hR he hs (by omega) hc⟩, fun h => ?_, fun h => ?_, ?_, ?_⟩
  · obtain ⟨rfl, rfl⟩ := rn_fail hR h
    exact ⟨rfl, rfl⟩
  · subst h
    obtain ⟨_, h1, h2, h3, h4⟩ := rn_good hR
    exact ⟨h1, h2, by omega, by omega⟩
  · unfold dn
    rw [hR]
  · unfold dn
    rw [hR]

set_option maxRecDepth 100000 in
set_option maxHeartbeats 8000000 in
theorem walk (A : Option Addr) (n c : Nat) (l : List UInt8) (w : World) (hs : Sl w w.heap.size A n l) (_hc : n ≤ c) (_hnil : A = none → n = 0 ∧ c = 0) (he : Env w) :
    Calls Tryd.prog 4 #[.slice A n c] w fun e w' => e = .returned (.bool true) ∧ Below w.heap.size w w' := by
  have HS := Lib.hid hs
  have HE := Lib.hid he
  clear hs he _hnil
  by_cases hn : n ≤ 1048576
  · go_enter Tryd.func4, Tryd.ntmps4
    go_wp2_with fail
    refine (big_no A n c w hn).mono ?_
    rintro e w0 ⟨rfl, rfl⟩
    go_wp2_with fail
    refine (drawGetName_any A n c l w HS.out hn).mono ?_
    rintro e w1 ⟨gb, m, cap, x, rfl, hm, hx0, hx1, ho, hl⟩
    obtain ⟨lb, hsl, hmc⟩ := ho.sl
    have SB1 := Lib.hid hsl
    have L1 := Lib.hid hl
    clear hsl ho hl
    obtain ⟨T, y, c0, j, hrd, hbad, hgood, _, _⟩ := reads m cap lb x SB1.out.1 (by omega) hmc
    have RD := Lib.hid hrd
    have BAD := Lib.hid hbad
    have GOOD := Lib.hid hgood
    clear hrd hbad hgood
    go_wp2_with fail
    refine ((RD.out (some ⟨gb, 0, none⟩) w1 SB1.out).2.1 (HE.out.below L1.out)).mono ?_
    rintro e w2 ⟨rfl, hl⟩
    have SB2 := Lib.hid ((SB1.out.below hl).wider hl.size)
    have L2 := Lib.hid (L1.out.trans (hl.mono L1.out.size))
    clear hl L1 SB1
    go_wp2_with fail
    refine ((RD.out (some ⟨gb, 0, none⟩) w2 SB2.out).1).mono ?_
    rintro e w3 ⟨rfl, hl⟩
    have SB3 := Lib.hid ((SB2.out.below hl).wider hl.size)
    have L3 := Lib.hid (L2.out.trans (hl.mono L2.out.size))
    clear hl L2 SB2
    go_wp2_with fail
    refine (drawPlaceOf_any A n c l w3 ((HS.out.below L3.out).wider L3.out.size) hn).mono ?_
    rintro e w4 ⟨gc, mc, capc, t, rfl, hmm, ht60, ho, hl⟩
    obtain ⟨lc, hsl, hmcc⟩ := ho.sl
    have SC4 := Lib.hid hsl
    have SB4 := Lib.hid ((SB3.out.below hl).wider hl.size)
    have L4 := Lib.hid (L3.out.trans (hl.mono L3.out.size))
    clear hsl ho hl L3 SB3
    go_wp2_with fail
    refine (drawCodeName_any A n c l w4 ((HS.out.below L4.out).wider L4.out.size) hn).mono ?_
    rintro e w5 ⟨k, rfl, hl⟩
    have SC5 := Lib.hid ((SC4.out.below hl).wider hl.size)
    have SB5 := Lib.hid ((SB4.out.below hl).wider hl.size)
    have L5 := Lib.hid (L4.out.trans (hl.mono L4.out.size))
    clear hl L4 SB4 SC4
    have PI := Lib.hid (fun w he hs => Place.impl (some ⟨gc, 0, none⟩) mc capc lc t w he hs (by omega) hmcc)
    have PS := Lib.hid (fun w hs => Place.spec (some ⟨gc, 0, none⟩) mc capc lc t w hs (by omega) hmcc)
    have PSOME := Lib.hid (pl_some (l := lc) (s := t))
    have CI := Lib.hid (fun w => CodeName.impl k w)
    have CS := Lib.hid (fun w => CodeName.spec k w)
    generalize hq : pl lc t = q at *
    clear hq
    generalize Cn k = K at *
    go_wp2_with fail
    refine (PI.out w5 (HE.out.below L5.out) SC5.out).mono ?_
    rintro e w6 ⟨rfl, hl⟩
    have SB6 := Lib.hid ((SB5.out.below hl).wider hl.size)
    have SC6 := Lib.hid ((SC5.out.below hl).wider hl.size)
    have L6 := Lib.hid (L5.out.trans (hl.mono L5.out.size))
    clear hl L5 SB5 SC5
    have ht1 : (T.data.toList == T.data.toList) = true := by simp
    have ht2 : (T.toList == T.toList) = true := by simp
    have hy1 : (y != y) = false := by simp
    have hc1 : ((c0 : Int) != (c0 : Int)) = false := by simp
    have hj1 : ((j : Int) != (j : Int)) = false := by simp
    have hq1 : (q != q) = false := by simp
    have hk1 : (K.data.toList == K.data.toList) = true := by simp
    have hk2 : (K.toList == K.toList) = true := by simp
    go_wp2_with fail
    refine ((RD.out (some ⟨gb, 0, none⟩) w6 SB6.out).2.2.2 (HE.out.below L6.out)).mono ?_
    rintro e w7 ⟨rfl, hl⟩
    have SB7 := Lib.hid ((SB6.out.below hl).wider hl.size)
    have SC7 := Lib.hid ((SC6.out.below hl).wider hl.size)
    have L7 := Lib.hid (L6.out.trans (hl.mono L6.out.size))
    clear hl L6 SB6 SC6
    go_wp2_with fail
    refine ((RD.out (some ⟨gb, 0, none⟩) w7 SB7.out).2.2.1).mono ?_
    rintro e w8 ⟨rfl, hl⟩
    have SB8 := Lib.hid ((SB7.out.below hl).wider hl.size)
    have SC8 := Lib.hid ((SC7.out.below hl).wider hl.size)
    have L8 := Lib.hid (L7.out.trans (hl.mono L7.out.size))
    clear hl L7 SB7 SC7
    go_wp2_with fail
    refine (PS.out w8 SC8.out).mono ?_
    rintro e w9 ⟨rfl, hl⟩
    have SB9 := Lib.hid ((SB8.out.below hl).wider hl.size)
    have SC9 := Lib.hid ((SC8.out.below hl).wider hl.size)
    have L9 := Lib.hid (L8.out.trans (hl.mono L8.out.size))
    clear hl L8 SB8 SC8
    go_wp2_with fail
    refine (CI.out w9).mono ?_
    rintro e w10 ⟨rfl, hl⟩
    have SB10 := Lib.hid ((SB9.out.below hl).wider hl.size)
    have SC10 := Lib.hid ((SC9.out.below hl).wider hl.size)
    have L10 := Lib.hid (L9.out.trans (hl.mono L9.out.size))
    clear hl L9 SB9 SC9
    go_wp2_with fail
    refine (CS.out w10).mono ?_
    rintro e w11 ⟨rfl, hl⟩
    have SB11 := Lib.hid ((SB10.out.below hl).wider hl.size)
    have SC11 := Lib.hid ((SC10.out.below hl).wider hl.size)
    have L11 := Lib.hid (L10.out.trans (hl.mono L10.out.size))
    clear hl L10 SB10 SC10
    by_cases hq0 : 0 ≤ q
    · obtain ⟨i, hqi, hi1, hi2, hhit⟩ := PSOME.out hq0
      obtain ⟨T', y', c', j', hrd', _, _, hd1, hd2⟩ := reads mc capc lc (i : Int) SC11.out.1 (by omega) hmcc
      obtain ⟨h0, h1⟩ := hit_iff.1 hhit
      have hc' : c' = 0 := hd1.symm.trans h0
      have hT' : T' = t := hd2.symm.trans h1
      subst hc' hT'
      have RD' := Lib.hid hrd'
      clear hrd' hd1 hd2 h0 h1 hhit
      subst hqi
      have ht3 : (T'.data.toList == T'.data.toList) = true := by simp
      have ht4 : (T'.toList == T'.toList) = true := by simp
      go_wp2_with fail
      refine ((RD'.out (some ⟨gc, 0, none⟩) w11 SC11.out).2.1 (HE.out.below L11.out)).mono ?_
      rintro e w12 ⟨rfl, hl⟩
      have SB12 := Lib.hid ((SB11.out.below hl).wider hl.size)
      have SC12 := Lib.hid ((SC11.out.below hl).wider hl.size)
      have L12 := Lib.hid (L11.out.trans (hl.mono L11.out.size))
      clear hl L11 SB11 SC11
      by_cases hc0 : c0 = 0
      · obtain ⟨hnm, hxy, hym, hjm⟩ := GOOD.out hc0
        subst hc0
        have hts : T.size ≤ 50 := by
          rw [Nm, Bool.and_eq_true, Bool.and_eq_true] at hnm
          exact of_decide_eq_true hnm.1.2
        have NO := Lib.hid (fun w he => NameOk.impl T w he (by omega))
        rw [hnm] at NO
        clear hnm
        go_wp2_with fail
        refine (NO.out w12 (HE.out.below L12.out)).mono ?_
        rintro e w13 ⟨rfl, hl⟩
        have SB13 := Lib.hid ((SB12.out.below hl).wider hl.size)
        have L13 := Lib.hid (L12.out.trans (hl.mono L12.out.size))
        clear hl L12 SB12
        go_wp2_with fail
        refine ((RD.out (some ⟨gb, 0, none⟩) w13 SB13.out).2.2.2 (HE.out.below L13.out)).mono ?_
        rintro e w14 ⟨rfl, hl⟩
        have SB14 := Lib.hid ((SB13.out.below hl).wider hl.size)
        have L14 := Lib.hid (L13.out.trans (hl.mono L13.out.size))
        clear hl L13 SB13
        go_wp2
        go_ret
        exact ⟨rfl, L14.out⟩
      · obtain ⟨hT, hy0⟩ := BAD.out hc0
        subst hT hy0
        have hcn : ((c0 : Int) != 0) = true := by simp; omega
        go_wp2
        go_ret
        exact ⟨rfl, L12.out⟩
    · have hq2 : ¬ (0 : Int) ≤ q := hq0
      by_cases hc0 : c0 = 0
      · obtain ⟨hnm, hxy, hym, hjm⟩ := GOOD.out hc0
        subst hc0
        have hts : T.size ≤ 50 := by
          rw [Nm, Bool.and_eq_true, Bool.and_eq_true] at hnm
          exact of_decide_eq_true hnm.1.2
        have NO := Lib.hid (fun w he => NameOk.impl T w he (by omega))
        rw [hnm] at NO
        clear hnm
        go_wp2_with fail
        refine (NO.out w11 (HE.out.below L11.out)).mono ?_
        rintro e w12 ⟨rfl, hl⟩
        have SB12 := Lib.hid ((SB11.out.below hl).wider hl.size)
        have L12 := Lib.hid (L11.out.trans (hl.mono L11.out.size))
        clear hl L11 SB11
        go_wp2_with fail
        refine ((RD.out (some ⟨gb, 0, none⟩) w12 SB12.out).2.2.2 (HE.out.below L12.out)).mono ?_
        rintro e w13 ⟨rfl, hl⟩
        have SB13 := Lib.hid ((SB12.out.below hl).wider hl.size)
        have L13 := Lib.hid (L12.out.trans (hl.mono L12.out.size))
        clear hl L12 SB12
        go_wp2
        go_ret
        exact ⟨rfl, L13.out⟩
      · obtain ⟨hT, hy0⟩ := BAD.out hc0
        subst hT hy0
        have hcn : ((c0 : Int) != 0) = true := by simp; omega
        go_wp2
        go_ret
        exact ⟨rfl, L11.out⟩
  · go_enter Tryd.func4, Tryd.ntmps4
    go_wp2_with fail
    refine (big_yes A n c w hn).mono ?_
    rintro e w0 ⟨rfl, rfl⟩
    go_wp2
    go_ret
    exact ⟨rfl, Below.refl _ _⟩
end Go.Proofs.YtpjkfionhjbjiaaDoor.LawWiresBent
