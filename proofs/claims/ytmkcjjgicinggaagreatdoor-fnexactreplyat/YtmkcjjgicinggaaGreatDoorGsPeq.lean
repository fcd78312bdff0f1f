/- What sort.partitionEqual_func does: it parts a range by an element, its equals first. -/
import Derived.Test.YtmkcjjgicinggaaGreatDoorGsDef
import Derived.Sort.WalkC
import Derived.Deep.DeepCutAuto
namespace Go.Proofs.YtmkcjjgicinggaaGreatDoor.GsPeq
open Go.RowKit Go.Sort Go.Lib Go.Proofs.YtmkcjjgicinggaaGreatDoor.Mem Go.Proofs.YtmkcjjgicinggaaGreatDoor.GsDef

section
variable {α : Type} [Inhabited α] {g : Nat} {lb : Array Value} {sf : Nat} {sb : Array Value} {enc : α → Value} {lt : α → α → Bool} {blk off size : Nat} {w0 : World}

set_option maxHeartbeats 16000000 in
set_option maxRecDepth 100000 in
theorem parteq (E : En Tryz.prog g lb sf sb enc lt blk off size w0) (a b pivot : Nat) (d : Array α) (w : World) (S : St enc w0 blk off d w) (hs : d.size = size) (hap : a ≤ pivot) (hpb : pivot < b) (hb : b ≤ size) :
    Calls Tryz.prog 207 #[.agg #[.func (.func g) #[] lb, .func (.func sf) #[] sb], .int .i64 a, .int .i64 b, .int .i64 pivot] w fun e w' => e = .returned (.int .i64 (partitionEqual lt d a b pivot).1) ∧ St enc w0 blk off (partitionEqual lt d a b pivot).2 w' ∧ w.grownBy w' (some blk) := by
  have small := E.small
  have eg := E.eg
  have HS := Lib.hid (S.alloc (.cells #[.func (.func g) #[] lb, .func (.func sf) #[] sb] 185))
  have HT := Lib.hid (tw_new w 185 (.func (.func g) #[] lb) (.func (.func sf) #[] sb))
  have HG := Lib.hid (World.grownBy_alloc w (.cells #[.func (.func g) #[] lb, .func (.func sf) #[] sb] 185) (some blk))
  have NB : Hid (some w.heap.size ≠ some blk) := fun e => by have := S.lt; cases e; omega
  have HZ := Lib.hid hs
  clear S hs
  go_enter Tryz.func207, Tryz.ntmps207
  go_upto_region 1 with (fail)
  generalize w.alloc (.cells #[.func (.func g) #[] lb, .func (.func sf) #[] sb] 185) = w1 at *
  have HX := Lib.hid (E.swp HS.out HZ.out (a) (pivot) (by omega) (by omega))
  have d0 := HT.out.2
  replace HS := Lib.hid (HS.out.swap (i := a) (j := pivot) (by rw [HZ.out]; omega) (by rw [HZ.out]; omega))
  replace HT := Lib.hid (HT.out.grown (xch_grown enc w1 blk off d (a) (pivot)) NB.out)
  replace HG := Lib.hid (gr_trans HG.out (xch_grown enc w1 blk off d (a) (pivot)))
  have HY' : Hid ((swp d (a) (pivot)).size = size) := (size_swp _ _ _).trans HZ.out
  go_wp2_with fail
  rw [HX.out, Oper.upon_value]
  clear HX d0
  generalize xch enc w1 blk off d (a) (pivot) = w12 at *
  generalize hdq : swp d (a) (pivot) = dq at *
  have HEdq := Lib.hid hdq
  clear hdq
  go_wp2
  have hq5 : ((b : Int) - 1) = ((b - 1 : Nat) : Int) := by omega
  go_loopw [9, 10] (fun vi vj wr => ∃ (i3 j3 : Nat) (d3 : Array α), vi = .int .i64 i3 ∧ vj = .int .i64 j3 ∧ a + 1 ≤ i3 ∧ i3 ≤ j3 + 1 ∧ j3 ≤ b - 1 ∧ Hid (d3.size = size) ∧ Hid (St enc w0 blk off d3 wr) ∧ Hid (Tw wr w.heap.size (.func (.func g) #[] lb) (.func (.func sf) #[] sb)) ∧ Hid (w.grownBy wr (some blk)) ∧ Hid (partEqLoop lt a i3 j3 d3 = partEqLoop lt a (a + 1) (b - 1) dq)) (fun vi vj _ => (intOf vj + 1 - intOf vi).toNat)
  case atStart => exact ⟨a + 1, b - 1, dq, by go_num, by rw [← hq5], by omega, by omega, by omega, HY'.out, HS.out, HT.out, HG.out, rfl⟩
  case round =>
    clear HS HT HG hq5 HY'
    obtain ⟨i3, j3, d3, rfl, rfl, h31, h32, h33, HZ3, HS, HT, HG, HL⟩ := hrel
    go_wp2
    go_loopw [9] (fun vi wr => ∃ i2 : Nat, vi = .int .i64 i2 ∧ i3 ≤ i2 ∧ i2 ≤ j3 + 1 ∧ Hid (St enc w0 blk off d3 wr) ∧ Hid (Tw wr w.heap.size (.func (.func g) #[] lb) (.func (.func sf) #[] sb)) ∧ Hid (w.grownBy wr (some blk)) ∧ Hid (scanUp (fun x => !lt d3[a]! x) d3 (j3) i2 = scanUp (fun x => !lt d3[a]! x) d3 (j3) (i3))) (fun vi _ => j3 + 1 - (intOf vi).toNat)
    case atStart => exact ⟨i3, by first | rfl | (congr 1; done) | (congr 1; omega) | go_num, Nat.le_refl _, by omega, HS.out, HT.out, HG.out, rfl⟩
    case round =>
      clear HS HT HG
      obtain ⟨i2, rfl, hi1, hi2, HS, HT, HG, HU⟩ := hrel
      go_upto_region 3 with (fail)
      go_cut [30] (fun s wx => s = .bool (decide (i2 ≤ j3) && !lt d3[a]! d3[i2]!) ∧ Hid (St enc w0 blk off d3 wx) ∧ Hid (Tw wx w.heap.size (.func (.func g) #[] lb) (.func (.func sf) #[] sb)) ∧ Hid (w.grownBy wx (some blk)))
      case first =>
        by_cases hij : i2 ≤ j3
        · have hijz : (i2 : Int) ≤ (j3 : Int) := by omega
          have L := Lib.hid (E.less _ d3 HS.out HZ3.out (a) (i2) (by omega) (by omega))
          have c0 := HT.out.1
          go_wp2_with fail
          go_at_fn g
          refine L.out.mono ?_
          rintro e w13 ⟨rfl, hl⟩
          replace HS := Lib.hid (HS.out.below hl)
          replace HT := Lib.hid (HT.out.below hl)
          replace HG := Lib.hid (gr_trans HG.out (gr_below hl _))
          clear c0 hl L
          go_wp2_with fail
          go_meet
          case rel => exact ⟨by rw [decide_eq_true hij, Bool.true_and], HS.out, HT.out, HG.out⟩
        · have hijz : ¬ (i2 : Int) ≤ (j3 : Int) := by omega
          go_wp2_with fail
          go_meet
          case rel => exact ⟨by rw [decide_eq_false hij, Bool.false_and], HS.out, HT.out, HG.out⟩
      case rest =>
        clear HS HT HG
        obtain ⟨rfl, HS, HT, HG⟩ := hcut
        cases hv : (decide (i2 ≤ j3) && !lt d3[a]! d3[i2]!) with
        | true =>
          have hij : i2 ≤ j3 := of_decide_eq_true (Bool.and_eq_true_iff.1 hv).1
          have HU2 : Hid (scanUp (fun x => !lt d3[a]! x) d3 (j3) (i2 + 1) = scanUp (fun x => !lt d3[a]! x) d3 (j3) (i3)) := show _ = _ by rw [← HU.out, scanUp_go _ _ _ _ hij (Bool.and_eq_true_iff.1 hv).2]
          clear hv HU
          go_wp2
          go_roundw
          case rel => exact ⟨i2 + 1, by go_num, by omega, by omega, HS.out, HT.out, HG.out, HU2.out⟩
          case measure => (simp [intOf] <;> omega)
        | false =>
          have HU2 : Hid (i2 = scanUp (fun x => !lt d3[a]! x) d3 (j3) (i3)) := show _ = _ by
            rw [← HU.out, scanUp_end]
            rcases Bool.and_eq_false_iff.1 hv with h | h
            · exact Or.inl (of_decide_eq_false h)
            · exact Or.inr h
          clear hv HU
          go_wp2
          go_loopw [10] (fun vj wr => ∃ j2 : Nat, vj = .int .i64 j2 ∧ j2 ≤ j3 ∧ i2 ≤ j2 + 1 ∧ Hid (St enc w0 blk off d3 wr) ∧ Hid (Tw wr w.heap.size (.func (.func g) #[] lb) (.func (.func sf) #[] sb)) ∧ Hid (w.grownBy wr (some blk)) ∧ Hid (scanDown (fun x => lt d3[a]! x) d3 i2 j2 = scanDown (fun x => lt d3[a]! x) d3 i2 (j3))) (fun vj _ => (intOf vj).toNat)
          case atStart => exact ⟨j3, by first | rfl | (congr 1; done) | (congr 1; omega) | go_num, Nat.le_refl _, hi2, HS.out, HT.out, HG.out, rfl⟩
          case round =>
            clear HS HT HG
            obtain ⟨j2, rfl, hj1, hj2, HS, HT, HG, HD⟩ := hrel
            go_upto_region 5 with (fail)
            go_cut [42] (fun s wx => s = .bool (decide (i2 ≤ j2) && lt d3[a]! d3[j2]!) ∧ Hid (St enc w0 blk off d3 wx) ∧ Hid (Tw wx w.heap.size (.func (.func g) #[] lb) (.func (.func sf) #[] sb)) ∧ Hid (w.grownBy wx (some blk)))
            case first =>
              by_cases hij : i2 ≤ j2
              · have hijz : (i2 : Int) ≤ (j2 : Int) := by omega
                have L := Lib.hid (E.less _ d3 HS.out HZ3.out (a) (j2) (by omega) (by omega))
                have c0 := HT.out.1
                go_wp2_with fail
                go_at_fn g
                refine L.out.mono ?_
                rintro e w14 ⟨rfl, hl⟩
                replace HS := Lib.hid (HS.out.below hl)
                replace HT := Lib.hid (HT.out.below hl)
                replace HG := Lib.hid (gr_trans HG.out (gr_below hl _))
                clear c0 hl L
                go_wp2_with fail
                go_meet
                case rel => exact ⟨by rw [decide_eq_true hij, Bool.true_and], HS.out, HT.out, HG.out⟩
              · have hijz : ¬ (i2 : Int) ≤ (j2 : Int) := by omega
                go_wp2_with fail
                go_meet
                case rel => exact ⟨by rw [decide_eq_false hij, Bool.false_and], HS.out, HT.out, HG.out⟩
            case rest =>
              clear HS HT HG
              obtain ⟨rfl, HS, HT, HG⟩ := hcut
              cases hv : (decide (i2 ≤ j2) && lt d3[a]! d3[j2]!) with
              | true =>
                have hij : i2 ≤ j2 := of_decide_eq_true (Bool.and_eq_true_iff.1 hv).1
                have hj0 : 0 < j2 := by omega
                have HD2 : Hid (scanDown (fun x => lt d3[a]! x) d3 i2 (j2 - 1) = scanDown (fun x => lt d3[a]! x) d3 i2 (j3)) := show _ = _ by rw [← HD.out, scanDown_go _ _ _ _ hij hj0 (Bool.and_eq_true_iff.1 hv).2]
                clear hv HD
                go_wp2
                go_roundw
                case rel => exact ⟨j2 - 1, by congr 1 <;> omega, by omega, by omega, HS.out, HT.out, HG.out, HD2.out⟩
                case measure => (simp [intOf] <;> omega)
              | false =>
                have HD2 : Hid (j2 = scanDown (fun x => lt d3[a]! x) d3 i2 (j3)) := show _ = _ by
                  rw [← HD.out, scanDown_end]
                  rcases Bool.and_eq_false_iff.1 hv with h | h
                  · exact Or.inl (of_decide_eq_false h)
                  · exact Or.inr h
                clear hv HD
                by_cases hgt : j2 < i2
                · have hgtz : (i2 : Int) > (j2 : Int) := by omega
                  have HF : Hid (partitionEqual lt d a b pivot = (i2, d3)) := show _ = _ by unfold partitionEqual; rw [HEdq.out, ← HL.out]; exact partEq_break lt a i3 j3 d3 HU2.out HD2.out hgt
                  go_wp2
                  go_ret
                  exact ⟨by rw [HF.out]; rfl, by rw [HF.out]; exact HS.out, HG.out⟩
                · have hgtz : ¬ (i2 : Int) > (j2 : Int) := by omega
                  have hlt2 : i2 < j2 := scans_lt lt a i3 j3 d3 (by omega) HU2.out HD2.out (by omega)
                  have HP : Hid (partEqLoop lt a i3 j3 d3 = partEqLoop lt a (i2 + 1) (j2 - 1) (swp d3 i2 j2)) := partEq_go lt a i3 j3 d3 HU2.out HD2.out (by omega)
                  have HX := Lib.hid (E.swp HS.out HZ3.out (i2) (j2) (by omega) (by omega))
                  have d0 := HT.out.2
                  replace HS := Lib.hid (HS.out.swap (i := i2) (j := j2) (by rw [HZ3.out]; omega) (by rw [HZ3.out]; omega))
                  replace HT := Lib.hid (HT.out.grown (xch_grown enc wc blk off d3 (i2) (j2)) NB.out)
                  replace HG := Lib.hid (gr_trans HG.out (xch_grown enc wc blk off d3 (i2) (j2)))
                  have HZ4' : Hid ((swp d3 (i2) (j2)).size = size) := (size_swp _ _ _).trans HZ3.out
                  go_wp2_with fail
                  rw [HX.out, Oper.upon_value]
                  clear HX d0
                  generalize xch enc wc blk off d3 (i2) (j2) = w15 at *
                  generalize hd4 : swp d3 (i2) (j2) = d4 at *
                  have HEd4 := Lib.hid hd4
                  clear hd4
                  go_wp2
                  go_roundw
                  case rel => exact ⟨i2 + 1, j2 - 1, d4, by go_num, by congr 1 <;> omega, by omega, by omega, by omega, HZ4'.out, HS.out, HT.out, HG.out, by show _ = _; rw [← HL.out, HP.out]⟩
                  case measure => (simp [intOf] <;> omega)

end
end Go.Proofs.YtmkcjjgicinggaaGreatDoor.GsPeq
