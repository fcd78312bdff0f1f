/- What sort.siftDown_func does: it sifts an element down a heap. -/
import Derived.Test.YtmkcjjgicinggaaGreatDoorGsDef
import Derived.Sort.LotA
namespace Go.Proofs.YtmkcjjgicinggaaGreatDoor.GsSift
open Go.RowKit Go.Sort Go.Lib Go.Proofs.YtmkcjjgicinggaaGreatDoor.Mem Go.Proofs.YtmkcjjgicinggaaGreatDoor.GsDef

section
variable {α : Type} [Inhabited α] {g : Nat} {lb : Array Value} {sf : Nat} {sb : Array Value} {enc : α → Value} {lt : α → α → Bool} {blk off size : Nat} {w0 : World}

theorem sd_stop {hi first root : Nat} {d : Array α} (h : hi ≤ 2 * root + 1) : siftDown lt hi first root d = d := by
  rw [siftDown, dif_pos h]

theorem sd_right_stop {hi first root : Nat} {d : Array α} (h1 : ¬ hi ≤ 2 * root + 1) (h2 : 2 * root + 2 < hi) (hlv : lt d[first + (2 * root + 1)]! d[first + (2 * root + 2)]! = true) (hlw : lt d[first + root]! d[first + (2 * root + 2)]! = false) : siftDown lt hi first root d = d := by
  rw [siftDown, dif_neg h1, if_pos (by rw [Bool.and_eq_true]; exact ⟨decide_eq_true h2, hlv⟩), hlw]
  rfl

theorem sd_right_go {hi first root : Nat} {d : Array α} (h1 : ¬ hi ≤ 2 * root + 1) (h2 : 2 * root + 2 < hi) (hlv : lt d[first + (2 * root + 1)]! d[first + (2 * root + 2)]! = true) (hlw : lt d[first + root]! d[first + (2 * root + 2)]! = true) : siftDown lt hi first root d = siftDown lt hi first (2 * root + 2) (swp d (first + root) (first + (2 * root + 2))) := by
  rw [siftDown, dif_neg h1, if_pos (by rw [Bool.and_eq_true]; exact ⟨decide_eq_true h2, hlv⟩), hlw, if_neg (by decide), dif_pos h2]

theorem sd_left_stop {hi first root : Nat} {d : Array α} (h1 : ¬ hi ≤ 2 * root + 1) (h2 : ¬ (2 * root + 2 < hi) ∨ lt d[first + (2 * root + 1)]! d[first + (2 * root + 2)]! = false) (hlw : lt d[first + root]! d[first + (2 * root + 1)]! = false) : siftDown lt hi first root d = d := by
  rw [siftDown, dif_neg h1, if_neg (by rw [Bool.and_eq_true]; rintro ⟨h3, h4⟩; rcases h2 with h2 | h2; exact h2 (of_decide_eq_true h3); exact absurd (h2.symm.trans h4) (by decide)), hlw]
  rfl

theorem sd_left_go {hi first root : Nat} {d : Array α} (h1 : ¬ hi ≤ 2 * root + 1) (h2 : ¬ (2 * root + 2 < hi) ∨ lt d[first + (2 * root + 1)]! d[first + (2 * root + 2)]! = false) (hlw : lt d[first + root]! d[first + (2 * root + 1)]! = true) : siftDown lt hi first root d = siftDown lt hi first (2 * root + 1) (swp d (first + root) (first + (2 * root + 1))) := by
  rw [siftDown, dif_neg h1, if_neg (by rw [Bool.and_eq_true]; rintro ⟨h3, h4⟩; rcases h2 with h2 | h2; exact h2 (of_decide_eq_true h3); exact absurd (h2.symm.trans h4) (by decide)), hlw]
  rfl

set_option maxHeartbeats 8000000 in
set_option maxRecDepth 100000 in
theorem sift (E : En Tryz.prog g lb sf sb enc lt blk off size w0) (lo hi first : Nat) (d : Array α) (w : World) (S : St enc w0 blk off d w) (hs : d.size = size) (hf : first + hi ≤ size) (hlo : lo ≤ size) :
    Calls Tryz.prog 225 #[.agg #[.func (.func g) #[] lb, .func (.func sf) #[] sb], .int .i64 lo, .int .i64 hi, .int .i64 first] w (Did enc w0 blk off (siftDown lt hi first lo d) w) := by
  have small := E.small
  have eg := E.eg
  have S0 := Lib.hid (S.alloc (.cells #[.func (.func g) #[] lb, .func (.func sf) #[] sb] 185))
  have T0 := Lib.hid (tw_new w 185 (.func (.func g) #[] lb) (.func (.func sf) #[] sb))
  have G0 := Lib.hid (World.grownBy_alloc w (.cells #[.func (.func g) #[] lb, .func (.func sf) #[] sb] 185) (some blk))
  have NB : Hid (some w.heap.size ≠ some blk) := fun e => by have := S.lt; cases e; omega
  have HZ0 := Lib.hid hs
  clear S hs
  go_enter Tryz.func225, Tryz.ntmps225
  go_wp2
  generalize w.alloc (.cells #[.func (.func g) #[] lb, .func (.func sf) #[] sb] 185) = w1 at *
  go_loopw [8] (fun vr wr => ∃ (root : Nat) (dk : Array α), vr = .int .i64 root ∧ root ≤ size ∧ Hid (dk.size = size) ∧ Hid (St enc w0 blk off dk wr) ∧ Hid (Tw wr w.heap.size (.func (.func g) #[] lb) (.func (.func sf) #[] sb)) ∧ Hid (w.grownBy wr (some blk)) ∧ Hid (siftDown lt hi first root dk = siftDown lt hi first lo d)) (fun vr _ => size + 1 - (intOf vr).toNat)
  case atStart => exact ⟨lo, d, rfl, hlo, HZ0.out, S0.out, T0.out, G0.out, rfl⟩
  case round =>
    clear S0 T0 G0 HZ0
    obtain ⟨root, dk, rfl, hrs, HZ, HS, HT, HG, HO⟩ := hrel
    by_cases h1 : hi ≤ 2 * root + 1
    · have HF : Hid (siftDown lt hi first lo d = dk) := show _ = _ by rw [← HO.out, sd_stop h1]
      have hz1 : 2 * (root : Int) + 1 ≥ (hi : Int) := by omega
      go_wp2
      go_end0
      exact ⟨rfl, by rw [HF.out]; exact HS.out, HG.out⟩
    · have hz1 : ¬ 2 * (root : Int) + 1 ≥ (hi : Int) := by omega
      by_cases h2 : 2 * root + 2 < hi
      · have hz2 : 2 * (root : Int) + 1 + 1 < (hi : Int) := by omega
        have L := Lib.hid (E.less wr dk HS.out HZ.out (first + (2 * root + 1)) (first + (2 * root + 2)) (by omega) (by omega))
        rw [show (((first + (2 * root + 1) : Nat) : Int)) = (first : Int) + (2 * (root : Int) + 1) by omega, show (((first + (2 * root + 2) : Nat) : Int)) = (first : Int) + (2 * (root : Int) + 1) + 1 by omega] at L
        have c0 := HT.out.1
        cases hlv : lt dk[first + (2 * root + 1)]! dk[first + (2 * root + 2)]! with
        | true =>
          rw [hlv] at L
          go_wp2_with fail
          go_at_fn g
          refine L.out.mono ?_
          rintro e w2 ⟨rfl, hl⟩
          have HS2 := Lib.hid (HS.out.below hl)
          have HT2 := Lib.hid (HT.out.below hl)
          have HG2 := Lib.hid (gr_trans HG.out (gr_below hl _))
          clear c0 hl HS HT HG L
          have L2 := Lib.hid (E.less _ dk HS2.out HZ.out (first + root) (first + (2 * root + 2)) (by omega) (by omega))
          rw [show (((first + root : Nat) : Int)) = (first : Int) + (root : Int) by omega, show (((first + (2 * root + 2) : Nat) : Int)) = (first : Int) + (2 * (root : Int) + 1 + 1) by omega] at L2
          have c2 := HT2.out.1
          cases hlw : lt dk[first + root]! dk[first + (2 * root + 2)]! with
          | false =>
            rw [hlw] at L2
            have HF : Hid (siftDown lt hi first lo d = dk) := show _ = _ by rw [← HO.out, sd_right_stop h1 h2 hlv hlw]
            go_wp2_with fail
            go_at_fn g
            refine L2.out.mono ?_
            rintro e w3 ⟨rfl, hl⟩
            have S3 := Lib.hid (HS2.out.below hl)
            have G3 := Lib.hid (gr_trans HG2.out (gr_below hl _))
            clear c2 hl HS2 HT2 HG2 L2
            go_wp2
            go_end0
            exact ⟨rfl, by rw [HF.out]; exact S3.out, G3.out⟩
          | true =>
            rw [hlw] at L2
            have HN : Hid (siftDown lt hi first (2 * root + 2) (swp dk (first + root) (first + (2 * root + 2))) = siftDown lt hi first lo d) := show _ = _ by rw [← HO.out, sd_right_go h1 h2 hlv hlw]
            go_wp2_with fail
            go_at_fn g
            refine L2.out.mono ?_
            rintro e w3 ⟨rfl, hl⟩
            have S3 := HS2.out.below hl
            have T3 := HT2.out.below hl
            have G3 := gr_trans HG2.out (gr_below hl _)
            have hx := E.swp S3 HZ.out (first + root) (first + (2 * root + 2)) (by omega) (by omega)
            rw [show (((first + root : Nat) : Int)) = (first : Int) + (root : Int) by omega, show (((first + (2 * root + 2) : Nat) : Int)) = (first : Int) + (2 * (root : Int) + 1 + 1) by omega] at hx
            have S4 := Lib.hid (S3.swap (i := first + root) (j := first + (2 * root + 2)) (by rw [HZ.out]; omega) (by rw [HZ.out]; omega))
            have T4 := Lib.hid (T3.grown (xch_grown enc w3 blk off dk (first + root) (first + (2 * root + 2))) NB.out)
            have G4 := Lib.hid (gr_trans G3 (xch_grown enc w3 blk off dk (first + root) (first + (2 * root + 2))))
            have d0 := T3.2
            have HX := Lib.hid hx
            clear c2 hl S3 T3 G3 HS2 HT2 HG2 L2 hx
            go_wp2_with fail
            rw [HX.out, Oper.upon_value]
            clear HX d0
            have HW : Hid ((swp dk (first + root) (first + (2 * root + 2))).size = size) := (size_swp _ _ _).trans HZ.out
            generalize xch enc w3 blk off dk (first + root) (first + (2 * root + 2)) = w4 at *
            generalize swp dk (first + root) (first + (2 * root + 2)) = dn at *
            go_wp2
            go_roundw
            case rel => exact ⟨(2 * root + 2), dn, by congr 1 <;> omega, by omega, HW.out, S4.out, T4.out, G4.out, HN.out⟩
            case measure => simp [intOf]; omega
        | false =>
          rw [hlv] at L
          have hnl : ¬ (2 * root + 2 < hi) ∨ lt dk[first + (2 * root + 1)]! dk[first + (2 * root + 2)]! = false := Or.inr hlv
          go_wp2_with fail
          go_at_fn g
          refine L.out.mono ?_
          rintro e w2 ⟨rfl, hl⟩
          have HS2 := Lib.hid (HS.out.below hl)
          have HT2 := Lib.hid (HT.out.below hl)
          have HG2 := Lib.hid (gr_trans HG.out (gr_below hl _))
          clear c0 hl HS HT HG L
          have L2 := Lib.hid (E.less _ dk HS2.out HZ.out (first + root) (first + (2 * root + 1)) (by omega) (by omega))
          rw [show (((first + root : Nat) : Int)) = (first : Int) + (root : Int) by omega, show (((first + (2 * root + 1) : Nat) : Int)) = (first : Int) + (2 * (root : Int) + 1) by omega] at L2
          have c2 := HT2.out.1
          cases hlw : lt dk[first + root]! dk[first + (2 * root + 1)]! with
          | false =>
            rw [hlw] at L2
            have HF : Hid (siftDown lt hi first lo d = dk) := show _ = _ by rw [← HO.out, sd_left_stop h1 hnl hlw]
            go_wp2_with fail
            go_at_fn g
            refine L2.out.mono ?_
            rintro e w3 ⟨rfl, hl⟩
            have S3 := Lib.hid (HS2.out.below hl)
            have G3 := Lib.hid (gr_trans HG2.out (gr_below hl _))
            clear c2 hl HS2 HT2 HG2 L2
            go_wp2
            go_end0
            exact ⟨rfl, by rw [HF.out]; exact S3.out, G3.out⟩
          | true =>
            rw [hlw] at L2
            have HN : Hid (siftDown lt hi first (2 * root + 1) (swp dk (first + root) (first + (2 * root + 1))) = siftDown lt hi first lo d) := show _ = _ by rw [← HO.out, sd_left_go h1 hnl hlw]
            go_wp2_with fail
            go_at_fn g
            refine L2.out.mono ?_
            rintro e w3 ⟨rfl, hl⟩
            have S3 := HS2.out.below hl
            have T3 := HT2.out.below hl
            have G3 := gr_trans HG2.out (gr_below hl _)
            have hx := E.swp S3 HZ.out (first + root) (first + (2 * root + 1)) (by omega) (by omega)
            rw [show (((first + root : Nat) : Int)) = (first : Int) + (root : Int) by omega, show (((first + (2 * root + 1) : Nat) : Int)) = (first : Int) + (2 * (root : Int) + 1) by omega] at hx
            have S4 := Lib.hid (S3.swap (i := first + root) (j := first + (2 * root + 1)) (by rw [HZ.out]; omega) (by rw [HZ.out]; omega))
            have T4 := Lib.hid (T3.grown (xch_grown enc w3 blk off dk (first + root) (first + (2 * root + 1))) NB.out)
            have G4 := Lib.hid (gr_trans G3 (xch_grown enc w3 blk off dk (first + root) (first + (2 * root + 1))))
            have d0 := T3.2
            have HX := Lib.hid hx
            clear c2 hl S3 T3 G3 HS2 HT2 HG2 L2 hx
            go_wp2_with fail
            rw [HX.out, Oper.upon_value]
            clear HX d0
            have HW : Hid ((swp dk (first + root) (first + (2 * root + 1))).size = size) := (size_swp _ _ _).trans HZ.out
            generalize xch enc w3 blk off dk (first + root) (first + (2 * root + 1)) = w4 at *
            generalize swp dk (first + root) (first + (2 * root + 1)) = dn at *
            go_wp2
            go_roundw
            case rel => exact ⟨(2 * root + 1), dn, by congr 1 <;> omega, by omega, HW.out, S4.out, T4.out, G4.out, HN.out⟩
            case measure => simp [intOf]; omega
      · have hz2 : ¬ 2 * (root : Int) + 1 + 1 < (hi : Int) := by omega
        have hnl : ¬ (2 * root + 2 < hi) ∨ lt dk[first + (2 * root + 1)]! dk[first + (2 * root + 2)]! = false := Or.inl h2
        have HS2 := HS
        have HT2 := HT
        have HG2 := HG
        clear HS HT HG
        have L2 := Lib.hid (E.less _ dk HS2.out HZ.out (first + root) (first + (2 * root + 1)) (by omega) (by omega))
        rw [show (((first + root : Nat) : Int)) = (first : Int) + (root : Int) by omega, show (((first + (2 * root + 1) : Nat) : Int)) = (first : Int) + (2 * (root : Int) + 1) by omega] at L2
        have c2 := HT2.out.1
        cases hlw : lt dk[first + root]! dk[first + (2 * root + 1)]! with
        | false =>
          rw [hlw] at L2
          have HF : Hid (siftDown lt hi first lo d = dk) := show _ = _ by rw [← HO.out, sd_left_stop h1 hnl hlw]
          go_wp2_with fail
          go_at_fn g
          refine L2.out.mono ?_
          rintro e w3 ⟨rfl, hl⟩
          have S3 := Lib.hid (HS2.out.below hl)
          have G3 := Lib.hid (gr_trans HG2.out (gr_below hl _))
          clear c2 hl HS2 HT2 HG2 L2
          go_wp2
          go_end0
          exact ⟨rfl, by rw [HF.out]; exact S3.out, G3.out⟩
        | true =>
          rw [hlw] at L2
          have HN : Hid (siftDown lt hi first (2 * root + 1) (swp dk (first + root) (first + (2 * root + 1))) = siftDown lt hi first lo d) := show _ = _ by rw [← HO.out, sd_left_go h1 hnl hlw]
          go_wp2_with fail
          go_at_fn g
          refine L2.out.mono ?_
          rintro e w3 ⟨rfl, hl⟩
          have S3 := HS2.out.below hl
          have T3 := HT2.out.below hl
          have G3 := gr_trans HG2.out (gr_below hl _)
          have hx := E.swp S3 HZ.out (first + root) (first + (2 * root + 1)) (by omega) (by omega)
          rw [show (((first + root : Nat) : Int)) = (first : Int) + (root : Int) by omega, show (((first + (2 * root + 1) : Nat) : Int)) = (first : Int) + (2 * (root : Int) + 1) by omega] at hx
          have S4 := Lib.hid (S3.swap (i := first + root) (j := first + (2 * root + 1)) (by rw [HZ.out]; omega) (by rw [HZ.out]; omega))
          have T4 := Lib.hid (T3.grown (xch_grown enc w3 blk off dk (first + root) (first + (2 * root + 1))) NB.out)
          have G4 := Lib.hid (gr_trans G3 (xch_grown enc w3 blk off dk (first + root) (first + (2 * root + 1))))
          have d0 := T3.2
          have HX := Lib.hid hx
          clear c2 hl S3 T3 G3 HS2 HT2 HG2 L2 hx
          go_wp2_with fail
          rw [HX.out, Oper.upon_value]
          clear HX d0
          have HW : Hid ((swp dk (first + root) (first + (2 * root + 1))).size = size) := (size_swp _ _ _).trans HZ.out
          generalize xch enc w3 blk off dk (first + root) (first + (2 * root + 1)) = w4 at *
          generalize swp dk (first + root) (first + (2 * root + 1)) = dn at *
          go_wp2
          go_roundw
          case rel => exact ⟨(2 * root + 1), dn, by congr 1 <;> omega, by omega, HW.out, S4.out, T4.out, G4.out, HN.out⟩
          case measure => simp [intOf]; omega
end
end Go.Proofs.YtmkcjjgicinggaaGreatDoor.GsSift
