/- What sort.insertionSort_func does: it sorts a range by insertion. -/
import Derived.Test.YtmkcjjgicinggaaGreatDoorGsDef
import Derived.Sort.LotA
namespace Go.Proofs.YtmkcjjgicinggaaGreatDoor.GsIns
open Go.RowKit Go.Sort Go.Lib Go.Proofs.YtmkcjjgicinggaaGreatDoor.Mem Go.Proofs.YtmkcjjgicinggaaGreatDoor.GsDef

section
variable {α : Type} [Inhabited α] {g : Nat} {lb : Array Value} {sf : Nat} {sb : Array Value} {enc : α → Value} {lt : α → α → Bool} {blk off size : Nat} {w0 : World}

set_option maxHeartbeats 4000000 in
set_option maxRecDepth 100000 in
theorem ins (E : En Tryz.prog g lb sf sb enc lt blk off size w0) (a b : Nat) (d : Array α) (w : World) (S : St enc w0 blk off d w) (hs : d.size = size) (hab : a ≤ b) (hb : b ≤ size) :
    Calls Tryz.prog 201 #[.agg #[.func (.func g) #[] lb, .func (.func sf) #[] sb], .int .i64 a, .int .i64 b] w (Did enc w0 blk off (Sort.insertionSort lt d a b) w) := by
  have small := E.small
  have eg := E.eg
  have S0 := Lib.hid (S.alloc (.cells #[.func (.func g) #[] lb, .func (.func sf) #[] sb] 185))
  have T0 := Lib.hid (tw_new w 185 (.func (.func g) #[] lb) (.func (.func sf) #[] sb))
  have G0 := Lib.hid (World.grownBy_alloc w (.cells #[.func (.func g) #[] lb, .func (.func sf) #[] sb] 185) (some blk))
  have NB : Hid (some w.heap.size ≠ some blk) := fun e => by have := S.lt; cases e; omega
  have HZ0 := Lib.hid hs
  clear S hs
  go_enter Tryz.func201, Tryz.ntmps201
  go_wp2
  generalize w.alloc (.cells #[.func (.func g) #[] lb, .func (.func sf) #[] sb] 185) = w1 at *
  go_loopw [6] (fun vi wr => ∃ (i : Nat) (dk : Array α), vi = .int .i64 i ∧ a < i ∧ i ≤ b + 1 ∧ Hid (dk.size = size) ∧ Hid (St enc w0 blk off dk wr) ∧ Hid (Tw wr w.heap.size (.func (.func g) #[] lb) (.func (.func sf) #[] sb)) ∧ Hid (w.grownBy wr (some blk)) ∧ Hid (insOuter lt a b i dk = insOuter lt a b (a + 1) d)) (fun vi _ => b + 1 - (intOf vi).toNat)
  case atStart => exact ⟨a + 1, d, by go_num, by omega, by omega, HZ0.out, S0.out, T0.out, G0.out, rfl⟩
  case round =>
    clear S0 T0 G0 HZ0
    obtain ⟨i, dk, rfl, hai, hib, HZ, HS, HT, HG, HO⟩ := hrel
    by_cases hlt : i < b
    · have hltz : (i : Int) < (b : Int) := by omega
      go_wp2
      go_loopw [7] (fun vj wr2 => ∃ (j : Nat) (dj : Array α), vj = .int .i64 j ∧ a ≤ j ∧ j ≤ i ∧ Hid (dj.size = size) ∧ Hid (St enc w0 blk off dj wr2) ∧ Hid (Tw wr2 w.heap.size (.func (.func g) #[] lb) (.func (.func sf) #[] sb)) ∧ Hid (w.grownBy wr2 (some blk)) ∧ Hid (insInner lt a j dj = insInner lt a i dk)) (fun vj _ => (intOf vj).toNat)
      case atStart => exact ⟨i, dk, rfl, by omega, Nat.le_refl _, HZ.out, HS.out, HT.out, HG.out, rfl⟩
      case round =>
        clear HS HZ HT HG
        obtain ⟨j, dj, rfl, haj, hji, HZ, HS, HT, HG, HI⟩ := hrel
        have OUT := Lib.hid (fun (hst : j ≤ a ∨ lt dj[j]! dj[j - 1]! = false) => show insOuter lt a b (i + 1) dj = insOuter lt a b (a + 1) d by
          rw [← HO.out, insOuter_go _ _ _ _ _ hlt, ← HI.out, insInner_stop _ _ _ _ hst])
        by_cases hja : a < j
        · have hjaz : (a : Int) < (j : Int) := by omega
          have L := Lib.hid (E.less wr dj HS.out HZ.out j (j - 1) (by omega) (by omega))
          rw [show (((j - 1 : Nat) : Int)) = (j : Int) - 1 by omega] at L
          have c0 := HT.out.1
          cases hlv : lt dj[j]! dj[j - 1]! with
          | true =>
            rw [hlv] at L
            go_wp2_with fail
            go_at_fn g
            refine L.out.mono ?_
            rintro e w2 ⟨rfl, hl⟩
            have S2 := HS.out.below hl
            have T2 := HT.out.below hl
            have G2 := gr_trans HG.out (gr_below hl _)
            have hx := E.swp S2 HZ.out j (j - 1) (by omega) (by omega)
            rw [show (((j - 1 : Nat) : Int)) = (j : Int) - 1 by omega] at hx
            have S3 := Lib.hid (S2.swap (i := j) (j := j - 1) (by rw [HZ.out]; omega) (by rw [HZ.out]; omega))
            have T3 := Lib.hid (T2.grown (xch_grown enc w2 blk off dj j (j - 1)) NB.out)
            have G3 := Lib.hid (gr_trans G2 (xch_grown enc w2 blk off dj j (j - 1)))
            have d0 := T2.2
            clear c0 hl S2 T2 G2 HS HT HG L
            have HX := Lib.hid hx
            clear hx
            go_wp2_with fail
            rw [HX.out, Oper.upon_value]
            clear HX d0
            generalize xch enc w2 blk off dj j (j - 1) = w3 at *
            have HW : Hid ((swp dj j (j - 1)).size = size) := (size_swp _ _ _).trans HZ.out
            have HN : Hid (insInner lt a (j - 1) (swp dj j (j - 1)) = insInner lt a i dk) := show _ = _ by rw [← HI.out, insInner_go lt a j dj hja hlv]
            generalize swp dj j (j - 1) = dn at *
            go_wp2
            go_roundw
            case rel => exact ⟨j - 1, dn, by congr 1 <;> omega, by omega, by omega, HW.out, S3.out, T3.out, G3.out, HN.out⟩
            case measure => simp [intOf]; omega
          | false =>
            rw [hlv] at L
            have HO2 := Lib.hid (OUT.out (Or.inr hlv))
            clear OUT HI hlv
            go_wp2_with fail
            go_at_fn g
            refine L.out.mono ?_
            rintro e w2 ⟨rfl, hl⟩
            have S2 := Lib.hid (HS.out.below hl)
            have T2 := Lib.hid (HT.out.below hl)
            have G2 := Lib.hid (gr_trans HG.out (gr_below hl _))
            clear c0 hl HS HT HG L
            go_wp2
            go_roundw
            case rel => exact ⟨i + 1, dj, by go_num, by omega, by omega, HZ.out, S2.out, T2.out, G2.out, HO2.out⟩
            case measure => simp [intOf]; omega
        · have HO2 := Lib.hid (OUT.out (Or.inl (by omega)))
          clear OUT HI
          have hjaz : ¬ (a : Int) < (j : Int) := by omega
          go_wp2
          go_roundw
          case rel => exact ⟨i + 1, dj, by go_num, by omega, by omega, HZ.out, HS.out, HT.out, HG.out, HO2.out⟩
          case measure => simp [intOf]; omega
    · have HF : Hid (Sort.insertionSort lt d a b = dk) := show _ = _ by unfold Sort.insertionSort; rw [← HO.out, insOuter_stop _ _ _ _ _ hlt]
      have hltz : ¬ (i : Int) < (b : Int) := by omega
      go_wp2
      go_end0
      exact ⟨rfl, by rw [HF.out]; exact HS.out, HG.out⟩
end
end Go.Proofs.YtmkcjjgicinggaaGreatDoor.GsIns
