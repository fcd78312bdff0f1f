/- What the model's l4Walk, GetName and JumpsIn do: they read a name as WireMath tells, and turn nothing that was there. Condition: at most 400000000 bytes. -/
import Derived.Test.YtkfibepejlgniaaGreatDoorWireMath
import Derived.Test.YtkfibepejlgniaaGreatDoorNameSpec
import Derived.Deep.QuietTactic
import Derived.BigQuiet
namespace Go.Proofs.YtkfibepejlgniaaGreatDoor.WalkSpec
open Go.RowKit Go.Proofs.YtkfibepejlgniaaGreatDoor.Mem Go.Proofs.YtkfibepejlgniaaGreatDoor.MemS Go.Proofs.YtkfibepejlgniaaGreatDoor.JoinSpec Go.Proofs.YtkfibepejlgniaaGreatDoor.Label Go.Proofs.YtkfibepejlgniaaGreatDoor.GetLabel Go.Proofs.YtkfibepejlgniaaGreatDoor.NameOk Go.Proofs.YtkfibepejlgniaaGreatDoor.WireMath

/-- The four results. -/
def val4 (R : Nat × List ByteArray × Int × Nat) : Value := .tuple #[.string (Jo R.2.1), .int .i64 R.2.2.1, .int .i64 (R.1 : Int), .int .i64 (R.2.2.2 : Int)]
theorem results_tmp4 {fn : Func} {t u v x : Tmp} (h : fn.results = #[.tmp t, .tmp u, .tmp v, .tmp x]) (tmps : Array Value) (P : Program) (w : World) :
    (results fn tmps).run P w = .ok (.tuple #[tmps.getD t undef, tmps.getD u undef, tmps.getD v undef, tmps.getD x undef]) w := by
  simp [results, h]
theorem ret4 {s : ByteArray} {a b c : Int} {R : Nat × List ByteArray × Int × Nat} (h1 : s = Jo R.2.1) (h2 : a = R.2.2.1) (h3 : b = (R.1 : Int)) (h4 : c = (R.2.2.2 : Int)) :
    Ending.returned (.tuple #[.string s, .int .i64 a, .int .i64 b, .int .i64 c]) = .returned (val4 R) := by rw [h1, h2, h3, h4]; rfl
/-- What the loop knows of how many pointers were followed. -/
def Jm (j : Nat) (m : Int) : Prop := j = 0 ∨ (0 ≤ m ∧ (j : Int) + m ≤ 16384)
theorem Jm.lt {j : Nat} {m : Int} (h : Jm j m) : j ≤ 16384 := by unfold Jm at h; omega
theorem Jm.more {j : Nat} {m t : Int} (h : Jm j m) (h0 : 0 ≤ t) (h1 : t < m) (h2 : t < 16384) : Jm (j + 1) t := by unfold Jm at h ⊢; omega
def Xb (n : Nat) (x : Int) : Prop := -1 ≤ x ∧ x ≤ (n : Int) + 1

set_option maxRecDepth 100000 in
set_option maxHeartbeats 16000000 in
theorem l4Walk (A : Option Addr) (n c : Nat) (l : List UInt8) (k0 : Int) (w : World) (R : Nat × List ByteArray × Int × Nat) (hR : rn l [] k0 k0 0 (-1) = R) (hs : Sl w w.heap.size A n l) (hn : n ≤ 400000000) (hnc : n ≤ c) :
    Calls Tryz.prog 148 #[.slice A n c, .int .i64 k0] w fun e w' => e = .returned (val4 R) ∧ Below w.heap.size w w' := by
  have HS := Lib.hid hs
  have HL := Lib.hid hs.1
  have HR := Lib.hid hR
  clear hs hR
  go_enter Tryz.func148, Tryz.ntmps148
  go_wp2
  go_loopw [1, 8, 9, 10, 11] (fun a s x m j wr => ∃ (L : List ByteArray) (k' m' x' : Int) (j' : Nat), a = .int .i64 k' ∧ s = .string (Jo L) ∧ x = .int .i64 x' ∧ m = .int .i64 m' ∧ j = .int .i64 (j' : Int) ∧ Hid (rn l L k' m' j' x' = R) ∧ Hid (okL L = true) ∧ Hid (Nm (Jo L) = true) ∧ Hid (Jm j' m') ∧ Hid (Xb n x') ∧ Hid (Below w.heap.size w wr)) (fun a _ _ m _ _ => mu l (intOf a) (intOf m))
  case atStart => exact ⟨[], k0, k0, -1, 0, rfl, rfl, rfl, rfl, rfl, HR.out, rfl, rfl, Or.inl rfl, ⟨by omega, by omega⟩, Below.refl _ _⟩
  case round =>
    obtain ⟨L, k, m, x, j, rfl, rfl, rfl, rfl, rfl, HI, HK, HN, HJ, HX, HB⟩ := hrel
    have hj := HJ.out.lt
    have hs50 := nm_size HN.out
    have hx0 : -1 ≤ x := HX.out.1
    have hx1 : x ≤ (n : Int) + 1 := HX.out.2
    by_cases hk : k < 0 ∨ (n : Int) ≤ k
    · have HV := Lib.hid (HI.out.symm.trans (rn_out (by rw [HL.out]; exact hk)))
      generalize Jo L = T at *
      rcases (show k < 0 ∨ (¬ k < 0 ∧ (n : Int) ≤ k) by omega) with h1 | ⟨h0, h1⟩
      all_goals
        clear hk
        go_wp2
        (try simp only [Exit.inBlock, Exit.then]); refine bodyPost_ret (results_tmp4 rfl _ _ _) rfl ?_
        rw [HV.out]
        exact ⟨rfl, HB.out⟩
    · obtain ⟨k', rfl⟩ := Int.eq_ofNat_of_zero_le (show 0 ≤ k by omega)
      have hkn : k' < n := by omega
      have hkl : k' < l.length := by rw [HL.out]; exact hkn
      have HO : Hid (¬ ((k' : Int) < 0 ∨ (l.length : Int) ≤ (k' : Int))) := by show ¬ _; rw [HL.out]; exact hk
      obtain ⟨b, off, rfl, hbB, hcs⟩ := HS.out.2 (by omega)
      have hcell : wr.cell? ⟨b, off + k', none⟩ = some (.int .u8 (l[k'].toNat : Int)) := (HB.out.cell (p := ⟨b, off + k', none⟩) hbB).trans (hcs k' hkl)
      have HY := Lib.hid (bt_nat l k' hkl)
      have hy1 : l[k'].toNat < 256 := l[k'].toNat_lt
      clear hk
      generalize l[k'].toNat = y at *
      by_cases hy0 : y = 0
      · subst hy0
        have HV := Lib.hid (HI.out.symm.trans (rn_zero HO.out HY.out))
        clear hcs
        generalize hT : Jo L = T at *
        have HT := Lib.hid hT
        clear hT
        by_cases hxn : x < 0
        · go_wp2
          (try simp only [Exit.inBlock, Exit.then]); refine bodyPost_ret (results_tmp4 rfl _ _ _) rfl ?_
          rw [HV.out, if_pos (by omega)]
          exact ⟨ret4 HT.out.symm rfl rfl rfl, HB.out⟩
        · go_wp2
          (try simp only [Exit.inBlock, Exit.then]); refine bodyPost_ret (results_tmp4 rfl _ _ _) rfl ?_
          rw [HV.out, if_neg (by omega)]
          exact ⟨ret4 HT.out.symm rfl rfl rfl, HB.out⟩
      · have hyne : ((y : Int) == 0) = false := by rw [beq_eq_false_iff_ne]; omega
        have HY0 : Hid (bt l (k' : Int) ≠ 0) := by show _ ≠ _; rw [HY.out]; omega
        by_cases hy192 : 192 ≤ y
        · have H192 : Hid (192 ≤ bt l (k' : Int)) := by show _ ≤ _; rw [HY.out]; omega
          have hq : (192 : Int) ≤ (y : Int) := by omega
          by_cases hk1 : n ≤ k' + 1
          · have HV := Lib.hid (HI.out.symm.trans (rn_cut HO.out H192.out (by rw [HL.out]; omega)))
            clear hcs
            generalize Jo L = T at *
            go_wp2
            (try simp only [Exit.inBlock, Exit.then]); refine bodyPost_ret (results_tmp4 rfl _ _ _) rfl ?_
            rw [HV.out]
            exact ⟨rfl, HB.out⟩
          · have hkl1 : k' + 1 < l.length := by rw [HL.out]; omega
            have HK1 : Hid (¬ (l.length : Int) ≤ (k' : Int) + 1) := by show ¬ _; rw [HL.out]; omega
            have hcell1 : wr.cell? ⟨b, off + (k' + 1), none⟩ = some (.int .u8 (l[k' + 1].toNat : Int)) := (HB.out.cell (p := ⟨b, off + (k' + 1), none⟩) hbB).trans (hcs (k' + 1) hkl1)
            have HZ := Lib.hid (bt_nat l (k' + 1) hkl1)
            have hz1 : l[k' + 1].toNat < 256 := l[k' + 1].toNat_lt
            generalize l[k' + 1].toNat = z at *
            have HG : Hid (tg l (k' : Int) = 256 * ((y : Int) - 192) + (z : Int)) := by
              show _ = _
              rw [tg, HY.out, show ((k' : Int) + 1) = ((k' + 1 : Nat) : Int) by omega, HZ.out]
            clear hcs
            by_cases hm : m ≤ 256 * ((y : Int) - 192) + (z : Int)
            · have HV := Lib.hid (HI.out.symm.trans (rn_bad HO.out H192.out HK1.out (by rw [HG.out]; exact hm)))
              generalize Jo L = T at *
              go_wp2
              (try simp only [Exit.inBlock, Exit.then]); refine bodyPost_ret (results_tmp4 rfl _ _ _) rfl ?_
              rw [HV.out]
              exact ⟨rfl, HB.out⟩
            · have HV := Lib.hid ((rn_jump HO.out H192.out HK1.out (by rw [HG.out]; exact hm)).symm.trans HI.out)
              rw [HG.out] at HV
              have HJ2 := Lib.hid (HJ.out.more (t := 256 * ((y : Int) - 192) + (z : Int)) (by omega) (by omega) (by omega))
              have HMU := Lib.hid (mu_jump l (k' : Int) m (256 * ((y : Int) - 192) + (z : Int)) (by omega) (by omega))
              generalize hT : Jo L = T at *
              have HT := Lib.hid hT
              clear hT
              by_cases hxn : x < 0
              · rw [if_pos hxn] at HV
                go_wp2
                go_roundw
                case rel => exact ⟨L, 256 * ((y : Int) - 192) + (z : Int), 256 * ((y : Int) - 192) + (z : Int), (k' : Int) + 2, j + 1, by go_num, by rw [HT.out], by go_num, by go_num, by go_num, HV.out, HK.out, by rw [HT.out]; exact HN.out, HJ2.out, ⟨by omega, by omega⟩, HB.out⟩
                case measure => simpa [intOf] using HMU.out
              · rw [if_neg hxn] at HV
                go_wp2
                go_roundw
                case rel => exact ⟨L, 256 * ((y : Int) - 192) + (z : Int), 256 * ((y : Int) - 192) + (z : Int), x, j + 1, by go_num, by rw [HT.out], rfl, by go_num, by go_num, HV.out, HK.out, by rw [HT.out]; exact HN.out, HJ2.out, HX.out, HB.out⟩
                case measure => simpa [intOf] using HMU.out
        · have H192 : Hid (¬ 192 ≤ bt l (k' : Int)) := by show ¬ _; rw [HY.out]; omega
          have hq : ¬ (192 : Int) ≤ (y : Int) := by omega
          clear hcs
          by_cases hsh : y ≤ 12 ∧ n < k' + 1 + y
          · have HV := Lib.hid (HI.out.symm.trans (rn_none HO.out HY0.out H192.out (has_not (by rw [HY.out, HL.out]; omega))))
            rw [HY.out, HL.out, if_pos (by omega)] at HV
            obtain ⟨hs1, hs2⟩ := hsh
            generalize Jo L = T at *
            go_wp2
            (try simp only [Exit.inBlock, Exit.then]); refine bodyPost_ret (results_tmp4 rfl _ _ _) rfl ?_
            rw [HV.out]
            exact ⟨rfl, HB.out⟩
          · have HSH : Hid (¬ (bt l (k' : Int) ≤ 12 ∧ (l.length : Int) < (k' : Int) + 1 + bt l (k' : Int))) := by show ¬ _; rw [HY.out, HL.out]; omega
            have GL := Lib.hid (fun w hs => GetLabel.spec_any (some ⟨b, off, none⟩) n c l (k' : Int) w w.heap.size hs hn hnc)
            cases hh : has l (k' : Int) with
            | none =>
              rw [hh] at GL
              have HV := Lib.hid (HI.out.symm.trans (rn_none HO.out HY0.out H192.out hh))
              rw [if_neg HSH.out] at HV
              clear hh
              generalize Jo L = T at *
              rcases (show 12 < y ∨ (y ≤ 12 ∧ k' + 1 + y ≤ n) by omega) with hs1 | ⟨hs1, hs2⟩
              all_goals
                clear hsh
                go_wp2_with fail
                refine (GL.out wr ((HS.out.below HB.out).wider HB.out.size)).mono ?_
                rintro e w1 ⟨rfl, hl⟩
                have L1 := Lib.hid (HB.out.trans (hl.mono HB.out.size))
                clear hl
                simp only [val]
                go_wp2
                (try simp only [Exit.inBlock, Exit.then]); refine bodyPost_ret (results_tmp4 rfl _ _ _) rfl ?_
                rw [HV.out]
                exact ⟨rfl, L1.out⟩
            | some q =>
              obtain ⟨p, e0⟩ := q
              rw [hh] at GL
              have hsome := has_some hh
              have hp12 : p.size ≤ 12 := hsome.2.2.2.2.1
              have he0 : e0 ≤ n := by have := hsome.2.2.1; rw [HL.out] at this; exact this
              have hke : k' < e0 := by have := hsome.2.1; omega
              have HK2 := Lib.hid (okL_snoc HK.out hsome.2.2.2.1)
              have HMU := Lib.hid (mu_label l (k' : Int) m (e0 : Int) (by omega) (by omega) (by omega))
              have hs2 := has_bt hh
              rw [HY.out, HL.out] at hs2
              have hs1 : y ≤ 12 := by omega
              have hs2 : k' + 1 + y ≤ n := by omega
              have HH := Lib.hid hh
              clear hh hsome hsh
              by_cases hL : L = []
              · subst hL
                have HE : Hid (Jo ([] ++ [p]) = p) := jo_one p
                have NO := Lib.hid (fun w => NameOk.spec p w (by omega))
                obtain ⟨T, hT⟩ : ∃ T, T = Jo [] := ⟨_, rfl⟩
                rw [← hT] at hs50 ⊢
                have hne : T.toList.isEmpty = true := by rw [hT, ByteArray.toList_eq]; rfl
                have hne2 : (!T.toList.isEmpty) = false := by rw [hne]; rfl
                have HTP : Hid (T ++ p = p) := by show _ = _; rw [hT]; exact text_ext (by rw [text_add]; rfl)
                clear hT
                cases hb : Nm p with
                | true =>
                  rw [hb, ← HTP.out] at NO
                  have HNP : Hid (Nm (Jo ([] ++ [p])) = true) := by show _ = _; rw [HE.out]; exact hb
                  have HV := Lib.hid ((rn_label HO.out HY0.out H192.out HH.out HNP.out).symm.trans HI.out)
                  clear hb
                  go_wp2_with fail
                  refine (GL.out wr ((HS.out.below HB.out).wider HB.out.size)).mono ?_
                  rintro e w1 ⟨rfl, hl⟩
                  have L1 := Lib.hid (HB.out.trans (hl.mono HB.out.size))
                  clear hl
                  simp only [val]
                  go_wp2_with fail
                  refine (NO.out w1).mono ?_
                  rintro e w2 ⟨rfl, hl⟩
                  have L2 := Lib.hid (L1.out.trans (hl.mono L1.out.size))
                  clear hl
                  go_wp2
                  go_roundw
                  case rel => exact ⟨[] ++ [p], (e0 : Int), m, x, j, rfl, by rw [HE.out, HTP.out], rfl, rfl, rfl, HV.out, HK2.out, HNP.out, HJ.out, HX.out, L2.out⟩
                  case measure => simpa [intOf] using HMU.out
                | false =>
                  rw [hb, ← HTP.out] at NO
                  have HV := Lib.hid (HI.out.symm.trans (rn_long HO.out HY0.out H192.out HH.out (by rw [HE.out]; exact hb)))
                  clear hb
                  go_wp2_with fail
                  refine (GL.out wr ((HS.out.below HB.out).wider HB.out.size)).mono ?_
                  rintro e w1 ⟨rfl, hl⟩
                  have L1 := Lib.hid (HB.out.trans (hl.mono HB.out.size))
                  clear hl
                  simp only [val]
                  go_wp2_with fail
                  refine (NO.out w1).mono ?_
                  rintro e w2 ⟨rfl, hl⟩
                  have L2 := Lib.hid (L1.out.trans (hl.mono L1.out.size))
                  clear hl
                  go_wp2
                  (try simp only [Exit.inBlock, Exit.then]); refine bodyPost_ret (results_tmp4 rfl _ _ _) rfl ?_
                  rw [HV.out]
                  exact ⟨rfl, L2.out⟩
              · have hne : (Jo L).toList.isEmpty = false := Labels.not_empty _ (fun h => hL (jo_none HK.out h))
                have hne2 : (!(Jo L).toList.isEmpty) = true := by rw [hne]; rfl
                have HE := Lib.hid (jo_snoc (p := p) hL)
                have NO := Lib.hid (fun w => NameOk.spec (Jo (L ++ [p])) w (by rw [HE.out]; simp only [ByteArray.size_append]; have : (⟨#[46]⟩ : ByteArray).size = 1 := rfl; omega))
                cases hb : Nm (Jo (L ++ [p])) with
                | true =>
                  rw [hb] at NO
                  have HV := Lib.hid ((rn_label HO.out HY0.out H192.out HH.out hb).symm.trans HI.out)
                  have HNP := Lib.hid hb
                  rw [HE.out] at NO
                  clear hb
                  generalize hT : Jo L = T at *
                  go_wp2_with fail
                  refine (GL.out wr ((HS.out.below HB.out).wider HB.out.size)).mono ?_
                  rintro e w1 ⟨rfl, hl⟩
                  have L1 := Lib.hid (HB.out.trans (hl.mono HB.out.size))
                  clear hl
                  simp only [val]
                  go_wp2_with fail
                  refine (NO.out w1).mono ?_
                  rintro e w2 ⟨rfl, hl⟩
                  have L2 := Lib.hid (L1.out.trans (hl.mono L1.out.size))
                  clear hl
                  go_wp2
                  go_roundw
                  case rel => exact ⟨L ++ [p], (e0 : Int), m, x, j, rfl, by rw [HE.out], rfl, rfl, rfl, HV.out, HK2.out, HNP.out, HJ.out, HX.out, L2.out⟩
                  case measure => simpa [intOf] using HMU.out
                | false =>
                  rw [hb] at NO
                  have HV := Lib.hid (HI.out.symm.trans (rn_long HO.out HY0.out H192.out HH.out hb))
                  rw [HE.out] at NO
                  clear hb
                  generalize hT : Jo L = T at *
                  go_wp2_with fail
                  refine (GL.out wr ((HS.out.below HB.out).wider HB.out.size)).mono ?_
                  rintro e w1 ⟨rfl, hl⟩
                  have L1 := Lib.hid (HB.out.trans (hl.mono HB.out.size))
                  clear hl
                  simp only [val]
                  go_wp2_with fail
                  refine (NO.out w1).mono ?_
                  rintro e w2 ⟨rfl, hl⟩
                  have L2 := Lib.hid (L1.out.trans (hl.mono L1.out.size))
                  clear hl
                  go_wp2
                  (try simp only [Exit.inBlock, Exit.then]); refine bodyPost_ret (results_tmp4 rfl _ _ _) rfl ?_
                  rw [HV.out]
                  exact ⟨rfl, L2.out⟩

/-- The three results of GetName. -/
def val3 (R : Nat × List ByteArray × Int × Nat) : Value := .tuple #[.string (Jo R.2.1), .int .i64 R.2.2.1, .int .i64 (R.1 : Int)]

set_option maxHeartbeats 1000000 in
theorem getName (A : Option Addr) (n c : Nat) (l : List UInt8) (k0 : Int) (w : World) (R : Nat × List ByteArray × Int × Nat) (hR : rn l [] k0 k0 0 (-1) = R) (hs : Sl w w.heap.size A n l) (hn : n ≤ 400000000) (hnc : n ≤ c) :
    Calls Tryz.prog 99 #[.slice A n c, .int .i64 k0] w fun e w' => e = .returned (val3 R) ∧ Below w.heap.size w w' := by
  have HW := Lib.hid (l4Walk A n c l k0 w R hR hs hn hnc)
  clear hs hR
  obtain ⟨c0, L0, x0, j0⟩ := R
  unfold val4 at HW
  unfold val3
  dsimp only at HW ⊢
  generalize Jo L0 = T at *
  go_enter Tryz.func99, Tryz.ntmps99
  go_wp2_with fail
  refine HW.out.mono ?_
  rintro e w1 ⟨rfl, hl⟩
  have L1 := Lib.hid hl
  clear hl
  go_wp2
  go_ret3
  exact ⟨rfl, L1.out⟩

end Go.Proofs.YtkfibepejlgniaaGreatDoor.WalkSpec
