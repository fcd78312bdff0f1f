/- What sort.partialInsertionSort_func does: a few steps of an insertion sort. -/
import Derived.Test.YtmkcjjgicinggaaGreatDoorGsDef
import Derived.Sort.WalkA6
import Derived.Deep.DeepCutAuto
namespace Go.Proofs.YtmkcjjgicinggaaGreatDoor.GsPins
open Go.RowKit Go.Sort Go.Lib Go.Proofs.YtmkcjjgicinggaaGreatDoor.Mem Go.Proofs.YtmkcjjgicinggaaGreatDoor.GsDef

section
variable {α : Type} [Inhabited α] {g : Nat} {lb : Array Value} {sf : Nat} {sb : Array Value} {enc : α → Value} {lt : α → α → Bool} {blk off size : Nat} {w0 : World}

set_option maxHeartbeats 16000000 in
set_option maxRecDepth 100000 in
theorem pins (E : En Tryz.prog g lb sf sb enc lt blk off size w0) (a b : Nat) (d : Array α) (w : World) (S : St enc w0 blk off d w) (hs : d.size = size) (hab : a < b) (hb : b ≤ size) :
    Calls Tryz.prog 206 #[.agg #[.func (.func g) #[] lb, .func (.func sf) #[] sb], .int .i64 a, .int .i64 b] w fun e w' => e = .returned (.bool (partialInsertionSort lt d a b).2) ∧ St enc w0 blk off (partialInsertionSort lt d a b).1 w' ∧ w.grownBy w' (some blk) := by
  have small := E.small
  have eg := E.eg
  have HS := Lib.hid (S.alloc (.cells #[.func (.func g) #[] lb, .func (.func sf) #[] sb] 185))
  have HT := Lib.hid (tw_new w 185 (.func (.func g) #[] lb) (.func (.func sf) #[] sb))
  have HG := Lib.hid (World.grownBy_alloc w (.cells #[.func (.func g) #[] lb, .func (.func sf) #[] sb] 185) (some blk))
  have NB : Hid (some w.heap.size ≠ some blk) := fun e => by have := S.lt; cases e; omega
  have HZ := Lib.hid hs
  clear S hs
  go_enter Tryz.func206, Tryz.ntmps206
  go_wp2
  generalize w.alloc (.cells #[.func (.func g) #[] lb, .func (.func sf) #[] sb] 185) = w1 at *
  go_loopw [7, 8] (fun vi vs wr => ∃ (i s : Nat) (dk : Array α), vi = .int .i64 i ∧ vs = .int .i64 s ∧ a + 1 ≤ i ∧ i ≤ b ∧ s ≤ 5 ∧ Hid (dk.size = size) ∧ Hid (St enc w0 blk off dk wr) ∧ Hid (Tw wr w.heap.size (.func (.func g) #[] lb) (.func (.func sf) #[] sb)) ∧ Hid (w.grownBy wr (some blk)) ∧ Hid (partialIns lt a b (5 - s) i dk = partialIns lt a b 5 (a + 1) d)) (fun _ vs _ => 5 - (intOf vs).toNat)
  case atStart => exact ⟨a + 1, 0, d, by go_num, rfl, by omega, by omega, by omega, HZ.out, HS.out, HT.out, HG.out, rfl⟩
  case round =>
    clear HS HT HG HZ
    obtain ⟨i, s, dk, rfl, rfl, hi1, hi2, hs5, HZ, HS, HT, HG, HO⟩ := hrel
    by_cases hs : s < 5
    · have hsz : (s : Int) < 5 := by omega
      go_wp2
      go_loopw [7] (fun vi wr => ∃ i2 : Nat, vi = .int .i64 i2 ∧ i ≤ i2 ∧ i2 ≤ b ∧ Hid (St enc w0 blk off dk wr) ∧ Hid (Tw wr w.heap.size (.func (.func g) #[] lb) (.func (.func sf) #[] sb)) ∧ Hid (w.grownBy wr (some blk)) ∧ Hid (scanSorted lt dk b i2 = scanSorted lt dk b i)) (fun vi _ => b - (intOf vi).toNat)
      case atStart => exact ⟨i, rfl, Nat.le_refl _, hi2, HS.out, HT.out, HG.out, rfl⟩
      case round =>
        clear HS HT HG
        obtain ⟨i2, rfl, hj1, hj2, HS, HT, HG, HU⟩ := hrel
        go_upto_region 5 with (fail)
        go_cut [28] (fun s wx => s = .bool (decide (i2 < b) && !lt dk[i2]! dk[i2 - 1]!) ∧ Hid (St enc w0 blk off dk wx) ∧ Hid (Tw wx w.heap.size (.func (.func g) #[] lb) (.func (.func sf) #[] sb)) ∧ Hid (w.grownBy wx (some blk)))
        case first =>
          by_cases hij : i2 < b
          · have hijz : (i2 : Int) < (b : Int) := by omega
            have L := Lib.hid (E.less _ dk HS.out HZ.out (i2) (i2 - 1) (by omega) (by omega))
            rw [show ((((i2 - 1) : Nat)) : Int) = (i2 : Int) - 1 by omega] at L
            have c0 := HT.out.1
            go_wp2_with fail
            go_at_fn g
            refine L.out.mono ?_
            rintro e w12 ⟨rfl, hl⟩
            replace HS := Lib.hid (HS.out.below hl)
            replace HT := Lib.hid (HT.out.below hl)
            replace HG := Lib.hid (gr_trans HG.out (gr_below hl _))
            clear c0 hl L
            go_wp2_with fail
            go_meet
            case rel => exact ⟨by rw [decide_eq_true hij, Bool.true_and], HS.out, HT.out, HG.out⟩
          · have hijz : ¬ (i2 : Int) < (b : Int) := by omega
            go_wp2_with fail
            go_meet
            case rel => exact ⟨by rw [decide_eq_false hij, Bool.false_and], HS.out, HT.out, HG.out⟩
        case rest =>
          clear HS HT HG
          obtain ⟨rfl, HS, HT, HG⟩ := hcut
          cases hv : (decide (i2 < b) && !lt dk[i2]! dk[i2 - 1]!) with
          | true =>
            have hij : i2 < b := of_decide_eq_true (Bool.and_eq_true_iff.1 hv).1
            have hl : lt dk[i2]! dk[i2 - 1]! = false := by simpa using (Bool.and_eq_true_iff.1 hv).2
            have HU2 : Hid (scanSorted lt dk b (i2 + 1) = scanSorted lt dk b i) := show _ = _ by rw [← HU.out, scanSorted_go lt dk b i2 hij hl]
            clear hv HU hl
            go_wp2
            go_roundw
            case rel => exact ⟨i2 + 1, by go_num, by omega, by omega, HS.out, HT.out, HG.out, HU2.out⟩
            case measure => (simp [intOf] <;> omega)
          | false =>
            have HK : Hid (scanSorted lt dk b i = i2) := show _ = _ by
              rw [← HU.out, scanSorted_stop]
              rcases Bool.and_eq_false_iff.1 hv with h | h
              · exact Or.inl (of_decide_eq_false h)
              · exact Or.inr (by simpa using h)
            clear hv HU
            by_cases hib : i2 = b
            · have hibz : (i2 : Int) = (b : Int) := by omega
              have hibb : ((i2 : Int) == (b : Int)) = true := by simpa using hibz
              have HF : Hid (partialInsertionSort lt d a b = (dk, true)) := show _ = _ by rw [show partialInsertionSort lt d a b = partialIns lt a b 5 (a + 1) d from rfl, ← HO.out, pi_true lt a b s i dk hs (HK.out.trans hib)]
              clear hibz
              go_wp2
              go_ret
              exact ⟨by rw [HF.out]; rfl, by rw [HF.out]; exact HS.out, HG.out⟩
            · have hibz : ¬ (i2 : Int) = (b : Int) := by omega
              have hibb : ((i2 : Int) == (b : Int)) = false := by simpa using hibz
              clear hibz
              by_cases h50 : b - a < 50
              · have h50z : (b : Int) - (a : Int) < 50 := by omega
                have HF : Hid (partialInsertionSort lt d a b = (dk, false)) := show _ = _ by rw [show partialInsertionSort lt d a b = partialIns lt a b 5 (a + 1) d from rfl, ← HO.out, pi_short lt a b s i dk hs (by rw [HK.out]; exact hib) h50]
                go_wp2
                go_ret
                exact ⟨by rw [HF.out]; rfl, by rw [HF.out]; exact HS.out, HG.out⟩
              · have h50z : ¬ (b : Int) - (a : Int) < 50 := by omega
                have HP : Hid (partialIns lt a b (5 - s) i dk = partialIns lt a b (5 - (s + 1)) i2 (fixUp lt b i2 (fixDown lt a i2 (swp dk i2 (i2 - 1))))) := pi_go lt a b s i i2 dk hs HK.out hib h50
                have HX := Lib.hid (E.swp HS.out HZ.out (i2) (i2 - 1) (by omega) (by omega))
                rw [show ((((i2 - 1) : Nat)) : Int) = (i2 : Int) - 1 by omega] at HX
                have d0 := HT.out.2
                replace HS := Lib.hid (HS.out.swap (i := i2) (j := i2 - 1) (by rw [HZ.out]; omega) (by rw [HZ.out]; omega))
                replace HT := Lib.hid (HT.out.grown (xch_grown enc wc blk off dk (i2) (i2 - 1)) NB.out)
                replace HG := Lib.hid (gr_trans HG.out (xch_grown enc wc blk off dk (i2) (i2 - 1)))
                have HY' : Hid ((swp dk (i2) (i2 - 1)).size = size) := (size_swp _ _ _).trans HZ.out
                go_wp2_with fail
                rw [HX.out, Oper.upon_value]
                clear HX d0
                generalize xch enc wc blk off dk (i2) (i2 - 1) = w13 at *
                generalize hdn : swp dk (i2) (i2 - 1) = dn at *
                have HEdn := Lib.hid hdn
                clear hdn
                clear HEdn
                go_upto_if 47 with (fail)
                go_cut [] (fun wx => ∃ dm : Array α, Hid (dm = fixDown lt a i2 dn) ∧ Hid (dm.size = size) ∧ Hid (St enc w0 blk off dm wx) ∧ Hid (Tw wx w.heap.size (.func (.func g) #[] lb) (.func (.func sf) #[] sb)) ∧ Hid (w.grownBy wx (some blk)))
                case first =>
                  by_cases h2 : i2 - a ≥ 2
                  · have h2z : (i2 : Int) - (a : Int) ≥ 2 := by omega
                    have HV : Hid (fixDown lt a i2 dn = shiftDown lt (i2 - 1) dn) := show _ = _ by unfold fixDown; rw [if_pos h2]
                    go_wp2_with fail
                    go_loopw [9] (fun vj wr => ∃ (j : Nat) (dj : Array α), vj = .int .i64 j ∧ j ≤ i2 - 1 ∧ Hid (dj.size = size) ∧ Hid (St enc w0 blk off dj wr) ∧ Hid (Tw wr w.heap.size (.func (.func g) #[] lb) (.func (.func sf) #[] sb)) ∧ Hid (w.grownBy wr (some blk)) ∧ Hid (shiftDown lt j dj = shiftDown lt (i2 - 1) dn)) (fun vj _ => (intOf vj).toNat)
                    case atStart => exact ⟨i2 - 1, dn, by congr 1; omega, Nat.le_refl _, HY'.out, HS.out, HT.out, HG.out, rfl⟩
                    case round =>
                      clear HS HT HG HY'
                      obtain ⟨j, dj, rfl, hj3, HZJ, HS, HT, HG, HJ⟩ := hrel
                      by_cases hj0 : 1 ≤ j
                      · have hj0z : (j : Int) ≥ 1 := by omega
                        have L := Lib.hid (E.less _ dj HS.out HZJ.out (j) (j - 1) (by omega) (by omega))
                        rw [show ((((j - 1) : Nat)) : Int) = (j : Int) - 1 by omega] at L
                        have c0 := HT.out.1
                        cases hlv : lt dj[j]! dj[j - 1]! with
                        | true =>
                          rw [hlv] at L
                          have HM : Hid (shiftDown lt (j - 1) (swp dj j (j - 1)) = shiftDown lt (i2 - 1) dn) := show _ = _ by rw [← HJ.out, shiftDown_go lt j dj hj0 hlv]
                          clear hlv
                          go_wp2_with fail
                          go_at_fn g
                          refine L.out.mono ?_
                          rintro e w14 ⟨rfl, hl⟩
                          replace HS := Lib.hid (HS.out.below hl)
                          replace HT := Lib.hid (HT.out.below hl)
                          replace HG := Lib.hid (gr_trans HG.out (gr_below hl _))
                          clear c0 hl L
                          have HX := Lib.hid (E.swp HS.out HZJ.out (j) (j - 1) (by omega) (by omega))
                          rw [show ((((j - 1) : Nat)) : Int) = (j : Int) - 1 by omega] at HX
                          have d0 := HT.out.2
                          replace HS := Lib.hid (HS.out.swap (i := j) (j := j - 1) (by rw [HZJ.out]; omega) (by rw [HZJ.out]; omega))
                          replace HT := Lib.hid (HT.out.grown (xch_grown enc w14 blk off dj (j) (j - 1)) NB.out)
                          replace HG := Lib.hid (gr_trans HG.out (xch_grown enc w14 blk off dj (j) (j - 1)))
                          have HZK' : Hid ((swp dj (j) (j - 1)).size = size) := (size_swp _ _ _).trans HZJ.out
                          go_wp2_with fail
                          rw [HX.out, Oper.upon_value]
                          clear HX d0
                          generalize xch enc w14 blk off dj (j) (j - 1) = w15 at *
                          generalize hdj2 : swp dj (j) (j - 1) = dj2 at *
                          have HEdj2 := Lib.hid hdj2
                          clear hdj2
                          go_wp2_with fail
                          go_roundw
                          case rel =>
                            (repeat apply Exists.intro)
                            refine ⟨⟨j - 1, dj2, rfl, by omega, HZK'.out, HS.out, HT.out, HG.out, HM.out⟩, by rw [decide_eq_true h2z, show ((j - 1 : Nat) : Int) = (j : Int) - 1 by omega]⟩
                          case measure => (simp [intOf] <;> omega)
                        | false =>
                          rw [hlv] at L
                          have HM : Hid (dj = fixDown lt a i2 dn) := show _ = _ by rw [HV.out, ← HJ.out, shiftDown_stop lt j dj (Or.inr hlv)]
                          clear hlv
                          go_wp2_with fail
                          go_at_fn g
                          refine L.out.mono ?_
                          rintro e w16 ⟨rfl, hl⟩
                          replace HS := Lib.hid (HS.out.below hl)
                          replace HT := Lib.hid (HT.out.below hl)
                          replace HG := Lib.hid (gr_trans HG.out (gr_below hl _))
                          clear c0 hl L
                          go_wp2_with fail
                          go_meet
                          case rel => exact ⟨dj, HM.out, HZJ.out, HS.out, HT.out, HG.out⟩
                      · have hj0z : ¬ (j : Int) ≥ 1 := by omega
                        have HM : Hid (dj = fixDown lt a i2 dn) := show _ = _ by rw [HV.out, ← HJ.out, shiftDown_stop lt j dj (Or.inl (by omega))]
                        go_wp2_with fail
                        go_meet
                        case rel => exact ⟨dj, HM.out, HZJ.out, HS.out, HT.out, HG.out⟩
                  · have h2z : ¬ (i2 : Int) - (a : Int) ≥ 2 := by omega
                    have HV : Hid (dn = fixDown lt a i2 dn) := show _ = _ by unfold fixDown; rw [if_neg h2]
                    go_wp2_with fail
                    go_meet
                    case rel => exact ⟨dn, HV.out, HY'.out, HS.out, HT.out, HG.out⟩
                case rest =>
                  clear HS HT HG HY'
                  obtain ⟨dm, HM, HZM, HS, HT, HG⟩ := hcut
                  by_cases h2 : b - i2 ≥ 2
                  · have h2z : (b : Int) - (i2 : Int) ≥ 2 := by omega
                    have HV : Hid (fixUp lt b i2 dm = shiftUp lt b (i2 + 1) dm) := show _ = _ by unfold fixUp; rw [if_pos h2]
                    go_wp2_with fail
                    go_loopw [10] (fun vj wr => ∃ (j : Nat) (dj : Array α), vj = .int .i64 j ∧ i2 + 1 ≤ j ∧ j ≤ b ∧ Hid (dj.size = size) ∧ Hid (St enc w0 blk off dj wr) ∧ Hid (Tw wr w.heap.size (.func (.func g) #[] lb) (.func (.func sf) #[] sb)) ∧ Hid (w.grownBy wr (some blk)) ∧ Hid (shiftUp lt b j dj = shiftUp lt b (i2 + 1) dm)) (fun vj _ => b - (intOf vj).toNat)
                    case atStart => exact ⟨i2 + 1, dm, by go_num, Nat.le_refl _, by omega, HZM.out, HS.out, HT.out, HG.out, rfl⟩
                    case round =>
                      clear HS HT HG HZM
                      obtain ⟨j, dj, rfl, hj3, hj4, HZJ, HS, HT, HG, HJ⟩ := hrel
                      by_cases hj0 : j < b
                      · have hj0z : (j : Int) < (b : Int) := by omega
                        have L := Lib.hid (E.less _ dj HS.out HZJ.out (j) (j - 1) (by omega) (by omega))
                        rw [show ((((j - 1) : Nat)) : Int) = (j : Int) - 1 by omega] at L
                        have c0 := HT.out.1
                        cases hlv : lt dj[j]! dj[j - 1]! with
                        | true =>
                          rw [hlv] at L
                          have HM2 : Hid (shiftUp lt b (j + 1) (swp dj j (j - 1)) = shiftUp lt b (i2 + 1) dm) := show _ = _ by rw [← HJ.out, shiftUp_go lt b j dj hj0 hlv]
                          clear hlv
                          go_wp2_with fail
                          go_at_fn g
                          refine L.out.mono ?_
                          rintro e w17 ⟨rfl, hl⟩
                          replace HS := Lib.hid (HS.out.below hl)
                          replace HT := Lib.hid (HT.out.below hl)
                          replace HG := Lib.hid (gr_trans HG.out (gr_below hl _))
                          clear c0 hl L
                          have HX := Lib.hid (E.swp HS.out HZJ.out (j) (j - 1) (by omega) (by omega))
                          rw [show ((((j - 1) : Nat)) : Int) = (j : Int) - 1 by omega] at HX
                          have d0 := HT.out.2
                          replace HS := Lib.hid (HS.out.swap (i := j) (j := j - 1) (by rw [HZJ.out]; omega) (by rw [HZJ.out]; omega))
                          replace HT := Lib.hid (HT.out.grown (xch_grown enc w17 blk off dj (j) (j - 1)) NB.out)
                          replace HG := Lib.hid (gr_trans HG.out (xch_grown enc w17 blk off dj (j) (j - 1)))
                          have HZK' : Hid ((swp dj (j) (j - 1)).size = size) := (size_swp _ _ _).trans HZJ.out
                          go_wp2_with fail
                          rw [HX.out, Oper.upon_value]
                          clear HX d0
                          generalize xch enc w17 blk off dj (j) (j - 1) = w18 at *
                          generalize hdj2 : swp dj (j) (j - 1) = dj2 at *
                          have HEdj2 := Lib.hid hdj2
                          clear hdj2
                          go_wp2_with fail
                          go_roundw
                          case rel => exact ⟨j + 1, dj2, by go_num, by omega, by omega, HZK'.out, HS.out, HT.out, HG.out, HM2.out⟩
                          case measure => (simp [intOf] <;> omega)
                        | false =>
                          rw [hlv] at L
                          have HM2 : Hid (fixUp lt b i2 dm = dj) := show _ = _ by rw [HV.out, ← HJ.out, shiftUp_stop lt b j dj (Or.inr hlv)]
                          rw [← HM.out] at HP
                          clear hlv
                          go_wp2_with fail
                          go_at_fn g
                          refine L.out.mono ?_
                          rintro e w19 ⟨rfl, hl⟩
                          replace HS := Lib.hid (HS.out.below hl)
                          replace HT := Lib.hid (HT.out.below hl)
                          replace HG := Lib.hid (gr_trans HG.out (gr_below hl _))
                          clear c0 hl L
                          have HN : Hid (partialIns lt a b (5 - (s + 1)) i2 dj = partialIns lt a b 5 (a + 1) d) := show _ = _ by rw [← HO.out, HP.out, HM2.out]
                          go_wp2_with fail
                          go_roundw
                          case rel => exact ⟨i2, s + 1, dj, rfl, by go_num, by omega, hj2, by omega, HZJ.out, HS.out, HT.out, HG.out, HN.out⟩
                          case measure => (simp [intOf] <;> omega)
                      · have hj0z : ¬ (j : Int) < (b : Int) := by omega
                        have HM2 : Hid (fixUp lt b i2 dm = dj) := show _ = _ by rw [HV.out, ← HJ.out, shiftUp_stop lt b j dj (Or.inl hj0)]
                        rw [← HM.out] at HP
                        have HN : Hid (partialIns lt a b (5 - (s + 1)) i2 dj = partialIns lt a b 5 (a + 1) d) := show _ = _ by rw [← HO.out, HP.out, HM2.out]
                        go_wp2_with fail
                        go_roundw
                        case rel => exact ⟨i2, s + 1, dj, rfl, by go_num, by omega, hj2, by omega, HZJ.out, HS.out, HT.out, HG.out, HN.out⟩
                        case measure => (simp [intOf] <;> omega)
                  · have h2z : ¬ (b : Int) - (i2 : Int) ≥ 2 := by omega
                    have HM2 : Hid (fixUp lt b i2 dm = dm) := show _ = _ by unfold fixUp; rw [if_neg h2]
                    rw [← HM.out] at HP
                    have HN : Hid (partialIns lt a b (5 - (s + 1)) i2 dm = partialIns lt a b 5 (a + 1) d) := show _ = _ by rw [← HO.out, HP.out, HM2.out]
                    go_wp2_with fail
                    go_roundw
                    case rel => exact ⟨i2, s + 1, dm, rfl, by go_num, by omega, hj2, by omega, HZM.out, HS.out, HT.out, HG.out, HN.out⟩
                    case measure => (simp [intOf] <;> omega)
    · have hsz : ¬ (s : Int) < 5 := by omega
      obtain rfl : s = 5 := by omega
      have HF : Hid (partialInsertionSort lt d a b = (dk, false)) := show _ = _ by rw [show partialInsertionSort lt d a b = partialIns lt a b 5 (a + 1) d from rfl, ← HO.out, pi_end lt a b i dk]
      go_wp2
      go_ret
      exact ⟨by rw [HF.out]; rfl, by rw [HF.out]; exact HS.out, HG.out⟩

end
end Go.Proofs.YtmkcjjgicinggaaGreatDoor.GsPins
