/- The law FnWires returns true on every slice that reads as bytes, where the library's variable internal/bytealg.MaxLen holds an int: a name is read back out of its encoding, with and without pointers. -/
import Derived.Test.YtpjkfionhjbjiaaDoorDrawW
import Derived.Test.YtpjkfionhjbjiaaDoorPutName
import Derived.Test.YtpjkfionhjbjiaaDoorSame
import Derived.Test.YtpjkfionhjbjiaaDoorWireBack
namespace Go.Proofs.YtpjkfionhjbjiaaDoor.LawWires
open Go.RowKit Go.Proofs.YtpjkfionhjbjiaaDoor.Mem Go.Proofs.YtpjkfionhjbjiaaDoor.Labels Go.Proofs.YtpjkfionhjbjiaaDoor.JoinSpec Go.Proofs.YtpjkfionhjbjiaaDoor.Split Go.Proofs.YtpjkfionhjbjiaaDoor.JoinLab Go.Proofs.YtpjkfionhjbjiaaDoor.NameOk Go.Proofs.YtpjkfionhjbjiaaDoor.Same Go.Proofs.YtpjkfionhjbjiaaDoor.App Go.Proofs.YtpjkfionhjbjiaaDoor.Plain Go.Proofs.YtpjkfionhjbjiaaDoor.WireMath Go.Proofs.YtpjkfionhjbjiaaDoor.WalkSpec Go.Proofs.YtpjkfionhjbjiaaDoor.PutSpec Go.Proofs.YtpjkfionhjbjiaaDoor.WireBack Go.Proofs.YtpjkfionhjbjiaaDoor.DrawW

/-- The program reads the name s at offset k, and the offset behind it is e. -/
def Back (n c : Nat) (l : List UInt8) (k e : Nat) (s : ByteArray) : Prop :=
  ∀ (A : Option Addr) (w : World), Sl w w.heap.size A n l → Env w →
    Calls Tryd.prog 18 #[.slice A n c, .int .i64 (k : Int)] w (fun r w' => r = .returned (.tuple #[.string s, .int .i64 (e : Int), .int .i64 0]) ∧ Below w.heap.size w w')
theorem back_of {n c : Nat} {l : List UInt8} {k : Nat} {s : ByteArray} {i : Nat} (h : rn l [] (k : Int) (k : Int) 0 (-1) = (0, Lab s, (l.length : Int), i)) (hl : l.length = n) (hn : n ≤ 1000000) (hc : n ≤ c) : Back n c l k n s := fun A w hs he => by
  have := NameGet.getName A n c l (k : Int) w _ h he hs (by omega) hc
  unfold val3 at this
  dsimp only at this
  rw [jo_lab, hl] at this
  exact this

set_option maxRecDepth 100000 in
set_option maxHeartbeats 8000000 in
theorem walk (A : Option Addr) (n c : Nat) (l : List UInt8) (w : World) (hs : Sl w w.heap.size A n l) (_hc : n ≤ c) (_hnil : A = none → n = 0 ∧ c = 0) (he : Env w) :
    Calls Tryd.prog 3 #[.slice A n c] w fun e w' => e = .returned (.bool true) ∧ Below w.heap.size w w' := by
  have HS := Lib.hid hs
  have HE := Lib.hid he
  clear hs he _hnil
  by_cases hn : n ≤ 1048576
  · go_enter Tryd.func3, Tryd.ntmps3
    go_wp2_with fail
    refine (big_no A n c w hn).mono ?_
    rintro e w0 ⟨rfl, rfl⟩
    go_wp2_with fail
    refine (drawPutName_any A n c l w HS.out hn).mono ?_
    rintro e w1 ⟨gb, m, cap, s, rfl, hm, hs60, ho, hl⟩
    obtain ⟨lb, hsl, hmc⟩ := ho.sl
    have SB1 := Lib.hid hsl
    have L1 := Lib.hid hl
    have ML := Lib.hid hsl.1
    clear hsl ho hl
    have TN := Lib.hid (tailN_len lb s)
    have TP := Lib.hid (tailP_len s)
    have NI := Lib.hid (fun w he hs => PutName.impl (some ⟨gb, 0, none⟩) m cap lb s w he hs hmc (fun h => by cases h) (by omega) (by omega))
    have NS := Lib.hid (fun w hs => PutSpec.spec (some ⟨gb, 0, none⟩) m cap lb s w hs hmc (fun h => by cases h) (by omega) (by omega))
    have PI := Lib.hid (fun w he hs => Plain.impl (some ⟨gb, 0, none⟩) m cap lb s w he hs (fun h => by cases h) (by omega) (by omega))
    have PS := Lib.hid (fun w hs => Plain.spec (some ⟨gb, 0, none⟩) m cap lb s w hs (fun h => by cases h) (by omega) (by omega))
    have NO := Lib.hid (fun w he => NameOk.impl s w he (by omega))
    have HXL : Hid ((lb ++ tailN lb s).length ≤ 480) := by show _ ≤ _; rw [List.length_append, ML.out]; have := TN.out; omega
    have HYL : Hid ((lb ++ tailP s).length ≤ 480) := by show _ ≤ _; rw [List.length_append, ML.out]; have := TP.out; omega
    have NSG := Lib.hid (fun w hs => (NS.out w hs).mono fun _ _ h => h.gives)
    have PSG := Lib.hid (fun w hs => (PS.out w hs).mono fun _ _ h => h.gives)
    have BADX : Hid (Nm s = false → lb ++ tailN lb s = lb) := fun h => by rw [tailN, h]; simp
    have BADY : Hid (Nm s = false → lb ++ tailP s = lb) := fun h => by rw [tailP, h]; simp
    have GX : Hid (Nm s = true → ∀ c, (lb ++ tailN lb s).length ≤ c → Back (lb ++ tailN lb s).length c (lb ++ tailN lb s) m (lb ++ tailN lb s).length s) := fun h c hc => by
      obtain ⟨i, hb⟩ := back_name lb s h
      rw [ML.out] at hb
      exact back_of hb rfl (by have := HXL.out; omega) hc
    have GY : Hid (Nm s = true → ∀ c, (lb ++ tailP s).length ≤ c → Back (lb ++ tailP s).length c (lb ++ tailP s) m (lb ++ tailP s).length s) := fun h c hc => by
      have hb := back_plain lb s h
      rw [ML.out] at hb
      exact back_of hb rfl (by have := HYL.out; omega) hc
    have JY : Hid (Nm s = true → ∀ (A : Option Addr) (c : Nat) (w : World), (lb ++ tailP s).length ≤ c → Sl w w.heap.size A (lb ++ tailP s).length (lb ++ tailP s) → Env w → Calls Tryd.prog 19 #[.slice A (lb ++ tailP s).length c, .int .i64 (m : Int)] w fun e w' => e = .returned (.int .i64 0) ∧ Below w.heap.size w w') := fun h A c w hc hs he => by
      have hb := back_plain lb s h
      rw [ML.out] at hb
      exact NameGet.jumpsIn A _ c _ (m : Int) w _ hb he hs (by have := HYL.out; omega) hc
    have LXY : Hid (Nm s = true → (lb ++ tailN lb s).length ≤ (lb ++ tailP s).length) := fun h => by
      rw [List.length_append, List.length_append]
      have := name_short lb s h
      omega
    have AGAIN : Hid (Nm s = true → (tailN (lb ++ tailN lb s) s).length ≤ 2) := fun h => again lb s h (by rw [ML.out]; omega)
    have GZ : Hid (Nm s = true → ∀ c, (lb ++ tailN lb s ++ tailN (lb ++ tailN lb s) s).length ≤ c → Back (lb ++ tailN lb s ++ tailN (lb ++ tailN lb s) s).length c (lb ++ tailN lb s ++ tailN (lb ++ tailN lb s) s) (lb ++ tailN lb s).length (lb ++ tailN lb s ++ tailN (lb ++ tailN lb s) s).length s) := fun h c hc => by
      obtain ⟨i, hb⟩ := back_name (lb ++ tailN lb s) s h
      exact back_of hb rfl (by rw [List.length_append]; have := HXL.out; have := AGAIN.out h; omega) hc
    clear TN TP NS PS
    generalize lb ++ tailN lb s = X at *
    generalize lb ++ tailP s = Y at *
    go_wp2_with fail
    refine (NI.out w1 (HE.out.below L1.out) SB1.out).mono ?_
    rintro e w2 ⟨gx, mx, cx, rx, rfl, hmx, hcx, _, hb, hl⟩
    have Kx := Lib.hid hmx
    have Sx2 : Hid (Sl w2 w2.heap.size (some ⟨gx, 0, none⟩) mx X) := hmx ▸ (hb.sl'.wider hb.lt)
    have SB2 := Lib.hid ((SB1.out.below hl).wider hl.size)
    have L2 := Lib.hid (L1.out.trans (hl.mono L1.out.size))
    clear hmx hb hl L1 SB1
    have hmx : mx ≤ 480 := by have := HXL.out; have := Kx.out; omega
    go_wp2_with fail
    refine (PI.out w2 (HE.out.below L2.out) SB2.out).mono ?_
    rintro e w3 ⟨gy, my, cy, ry, rfl, hmy, hcy, _, hb, hl⟩
    have Ky := Lib.hid hmy
    have Sy3 : Hid (Sl w3 w3.heap.size (some ⟨gy, 0, none⟩) my Y) := hmy ▸ (hb.sl'.wider hb.lt)
    have SB3 := Lib.hid ((SB2.out.below hl).wider hl.size)
    have Sx3 := Lib.hid ((Sx2.out.below hl).wider hl.size)
    have L3 := Lib.hid (L2.out.trans (hl.mono L2.out.size))
    clear hmy hb hl L2 SB2 Sx2
    have hmy : my ≤ 480 := by have := HYL.out; have := Ky.out; omega
    go_wp2_with fail
    refine (NSG.out w3 SB3.out).mono ?_
    rintro e w4 ⟨gp, mp, cp, rp, rfl, hmp, hcp, _, hb, hl⟩
    have Kp := Lib.hid hmp
    have Sp4 : Hid (Sl w4 w4.heap.size (some ⟨gp, 0, none⟩) mp X) := hmp ▸ (hb.sl'.wider hb.lt)
    have SB4 := Lib.hid ((SB3.out.below hl).wider hl.size)
    have Sx4 := Lib.hid ((Sx3.out.below hl).wider hl.size)
    have Sy4 := Lib.hid ((Sy3.out.below hl).wider hl.size)
    have L4 := Lib.hid (L3.out.trans (hl.mono L3.out.size))
    clear hmp hb hl L3 SB3 Sx3 Sy3
    have hmp : mp ≤ 480 := by have := HXL.out; have := Kp.out; omega
    go_wp2_with fail
    refine (same_same (some ⟨gx, 0, none⟩) (some ⟨gp, 0, none⟩) mx cx mp cp X w4 Sx4.out Sp4.out (by omega) (by omega)).mono ?_
    rintro e w5 ⟨rfl, hl⟩
    have SB5 := Lib.hid ((SB4.out.below hl).wider hl.size)
    have Sx5 := Lib.hid ((Sx4.out.below hl).wider hl.size)
    have Sy5 := Lib.hid ((Sy4.out.below hl).wider hl.size)
    have L5 := Lib.hid (L4.out.trans (hl.mono L4.out.size))
    clear hl L4 SB4 Sx4 Sy4
    go_wp2_with fail
    refine (PSG.out w5 SB5.out).mono ?_
    rintro e w6 ⟨gq, mq, cq, rq, rfl, hmq, hcq, _, hb, hl⟩
    have Kq := Lib.hid hmq
    have Sq6 : Hid (Sl w6 w6.heap.size (some ⟨gq, 0, none⟩) mq Y) := hmq ▸ (hb.sl'.wider hb.lt)
    have SB6 := Lib.hid ((SB5.out.below hl).wider hl.size)
    have Sx6 := Lib.hid ((Sx5.out.below hl).wider hl.size)
    have Sy6 := Lib.hid ((Sy5.out.below hl).wider hl.size)
    have L6 := Lib.hid (L5.out.trans (hl.mono L5.out.size))
    clear hmq hb hl L5 SB5 Sx5 Sy5
    have hmq : mq ≤ 480 := by have := HYL.out; have := Kq.out; omega
    go_wp2_with fail
    refine (same_same (some ⟨gy, 0, none⟩) (some ⟨gq, 0, none⟩) my cy mq cq Y w6 Sy6.out Sq6.out (by omega) (by omega)).mono ?_
    rintro e w7 ⟨rfl, hl⟩
    have SB7 := Lib.hid ((SB6.out.below hl).wider hl.size)
    have Sx7 := Lib.hid ((Sx6.out.below hl).wider hl.size)
    have Sy7 := Lib.hid ((Sy6.out.below hl).wider hl.size)
    have L7 := Lib.hid (L6.out.trans (hl.mono L6.out.size))
    clear hl L6 SB6 Sx6 Sy6
    clear NI PI NSG PSG
    cases hnm : Nm s with
    | false =>
      have EX := Lib.hid (BADX.out hnm)
      have EY := Lib.hid (BADY.out hnm)
      rw [hnm] at NO
      clear hnm
      go_wp2_with fail
      refine (NO.out w7 (HE.out.below L7.out)).mono ?_
      rintro e w8 ⟨rfl, hl⟩
      have SB8 := Lib.hid ((SB7.out.below hl).wider hl.size)
      have Sx8 := Lib.hid ((Sx7.out.below hl).wider hl.size)
      have Sy8 := Lib.hid ((Sy7.out.below hl).wider hl.size)
      have L8 := Lib.hid (L7.out.trans (hl.mono L7.out.size))
      clear hl L7 SB7 Sx7 Sy7
      rw [EX.out] at Sx8
      rw [EY.out] at Sy8
      go_wp2_with fail
      refine (same_same (some ⟨gx, 0, none⟩) (some ⟨gb, 0, none⟩) mx cx m cap lb w8 Sx8.out SB8.out (by omega) (by omega)).mono ?_
      rintro e w9 ⟨rfl, hl⟩
      have SB9 := Lib.hid ((SB8.out.below hl).wider hl.size)
      have Sy9 := Lib.hid ((Sy8.out.below hl).wider hl.size)
      have L9 := Lib.hid (L8.out.trans (hl.mono L8.out.size))
      clear hl L8 SB8 Sy8
      go_wp2_with fail
      refine (same_same (some ⟨gy, 0, none⟩) (some ⟨gb, 0, none⟩) my cy m cap lb w9 Sy9.out SB9.out (by omega) (by omega)).mono ?_
      rintro e w10 ⟨rfl, hl⟩
      have SB10 := Lib.hid ((SB9.out.below hl).wider hl.size)
      have L10 := Lib.hid (L9.out.trans (hl.mono L9.out.size))
      clear hl L9 SB9
      go_wp2
      go_ret
      exact ⟨rfl, L10.out⟩
    | true =>
      have BX := Lib.hid (GX.out hnm)
      have BY := Lib.hid (GY.out hnm)
      have JJ := Lib.hid (JY.out hnm)
      have BZ := Lib.hid (GZ.out hnm)
      have hxy := LXY.out hnm
      have hag := AGAIN.out hnm
      rw [hnm] at NO
      rw [Kx.out] at BX hxy
      rw [Kx.out] at BZ
      rw [Ky.out] at BY hxy
      rw [Ky.out] at JJ
      clear hnm GX GY JY GZ LXY AGAIN BADX BADY
      have BX := Lib.hid (BX.out cx hcx)
      have BY := Lib.hid (BY.out cy hcy)
      go_wp2_with fail
      refine (NO.out w7 (HE.out.below L7.out)).mono ?_
      rintro e w8 ⟨rfl, hl⟩
      have SB8 := Lib.hid ((SB7.out.below hl).wider hl.size)
      have Sx8 := Lib.hid ((Sx7.out.below hl).wider hl.size)
      have Sy8 := Lib.hid ((Sy7.out.below hl).wider hl.size)
      have L8 := Lib.hid (L7.out.trans (hl.mono L7.out.size))
      clear hl L7 SB7 Sx7 Sy7
      go_wp2_with fail
      refine (BX.out (some ⟨gx, 0, none⟩) w8 Sx8.out (HE.out.below L8.out)).mono ?_
      rintro e w9 ⟨rfl, hl⟩
      have SB9 := Lib.hid ((SB8.out.below hl).wider hl.size)
      have Sx9 := Lib.hid ((Sx8.out.below hl).wider hl.size)
      have Sy9 := Lib.hid ((Sy8.out.below hl).wider hl.size)
      have L9 := Lib.hid (L8.out.trans (hl.mono L8.out.size))
      clear hl L8 SB8 Sx8 Sy8
      go_wp2_with fail
      refine (BY.out (some ⟨gy, 0, none⟩) w9 Sy9.out (HE.out.below L9.out)).mono ?_
      rintro e w10 ⟨rfl, hl⟩
      have SB10 := Lib.hid ((SB9.out.below hl).wider hl.size)
      have Sx10 := Lib.hid ((Sx9.out.below hl).wider hl.size)
      have Sy10 := Lib.hid ((Sy9.out.below hl).wider hl.size)
      have L10 := Lib.hid (L9.out.trans (hl.mono L9.out.size))
      clear hl L9 SB9 Sx9 Sy9
      have HZL : Hid ((X ++ tailN X s).length ≤ mx + 2) := by show _ ≤ _; rw [List.length_append, Kx.out]; omega
      go_wp2_with fail
      refine (PutName.impl (some ⟨gx, 0, none⟩) mx cx X s w10 (HE.out.below L10.out) Sx10.out hcx (fun h => by cases h) (by omega) (by omega)).mono ?_
      rintro e w11 ⟨gz, mz, cz, rz, rfl, hmz, hcz, _, hb, hl⟩
      have Kz := Lib.hid hmz
      have Sz11 : Hid (Sl w11 w11.heap.size (some ⟨gz, 0, none⟩) mz (X ++ tailN X s)) := hmz ▸ (hb.sl'.wider hb.lt)
      have SB11 := Lib.hid ((SB10.out.below hl).wider hl.size)
      have Sx11 := Lib.hid ((Sx10.out.below hl).wider hl.size)
      have Sy11 := Lib.hid ((Sy10.out.below hl).wider hl.size)
      have L11 := Lib.hid (L10.out.trans (hl.mono L10.out.size))
      clear hmz hb hl L10 SB10 Sx10 Sy10
      have hmz : mz ≤ mx + 2 := by have := HZL.out; have := Kz.out; omega
      rw [Kz.out] at BZ
      have BZ := Lib.hid (BZ.out cz hcz)
      go_wp2_with fail
      refine (BZ.out (some ⟨gz, 0, none⟩) w11 Sz11.out (HE.out.below L11.out)).mono ?_
      rintro e w12 ⟨rfl, hl⟩
      have SB12 := Lib.hid ((SB11.out.below hl).wider hl.size)
      have Sx12 := Lib.hid ((Sx11.out.below hl).wider hl.size)
      have Sy12 := Lib.hid ((Sy11.out.below hl).wider hl.size)
      have L12 := Lib.hid (L11.out.trans (hl.mono L11.out.size))
      clear hl L11 SB11 Sx11 Sy11
      have ht1 : (s.data.toList == s.data.toList) = true := by simp
      have ht2 : (s.toList == s.toList) = true := by simp
      have hxx : ((mx : Int) == (mx : Int)) = true := by simp
      have hyy : ((my : Int) == (my : Int)) = true := by simp
      have hxy' : (mx : Int) ≤ (my : Int) := by omega
      have hzz : (mz : Int) ≤ (mx : Int) + 2 := by omega
      go_wp2_with fail
      refine (JJ.out (some ⟨gy, 0, none⟩) cy w12 hcy Sy12.out (HE.out.below L12.out)).mono ?_
      rintro e w13 ⟨rfl, hl⟩
      have SB13 := Lib.hid ((SB12.out.below hl).wider hl.size)
      have L13 := Lib.hid (L12.out.trans (hl.mono L12.out.size))
      clear hl L12 SB12
      go_wp2
      go_ret
      exact ⟨rfl, L13.out⟩
  · go_enter Tryd.func3, Tryd.ntmps3
    go_wp2_with fail
    refine (big_yes A n c w hn).mono ?_
    rintro e w0 ⟨rfl, rfl⟩
    go_wp2
    go_ret
    exact ⟨rfl, Below.refl _ _⟩
end Go.Proofs.YtpjkfionhjbjiaaDoor.LawWires
