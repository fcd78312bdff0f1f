/- What sort.heapSort_func does: it sorts a range by a heap. -/
import Derived.Test.YtmkcjjgicinggaaGreatDoorGsSift
import Derived.Sort.WalkB3
namespace Go.Proofs.YtmkcjjgicinggaaGreatDoor.GsHeap
open Go.Proofs.YtmkcjjgicinggaaGreatDoor.GsSift
open Go.RowKit Go.Sort Go.Lib Go.Proofs.YtmkcjjgicinggaaGreatDoor.Mem Go.Proofs.YtmkcjjgicinggaaGreatDoor.GsDef

section
variable {α : Type} [Inhabited α] {g : Nat} {lb : Array Value} {sf : Nat} {sb : Array Value} {enc : α → Value} {lt : α → α → Bool} {blk off size : Nat} {w0 : World}

set_option maxHeartbeats 8000000 in
set_option maxRecDepth 100000 in
theorem heap (E : En Tryz.prog g lb sf sb enc lt blk off size w0) (a b : Nat) (d : Array α) (w : World) (S : St enc w0 blk off d w) (hs : d.size = size) (hab : a ≤ b) (hb : b ≤ size) :
    Calls Tryz.prog 202 #[.agg #[.func (.func g) #[] lb, .func (.func sf) #[] sb], .int .i64 a, .int .i64 b] w (Did enc w0 blk off (heapSort lt d a b) w) := by
  have small := E.small
  have eg := E.eg
  have HS := Lib.hid (S.alloc (.cells #[.func (.func g) #[] lb, .func (.func sf) #[] sb] 185))
  have HT := Lib.hid (tw_new w 185 (.func (.func g) #[] lb) (.func (.func sf) #[] sb))
  have HG := Lib.hid (World.grownBy_alloc w (.cells #[.func (.func g) #[] lb, .func (.func sf) #[] sb] 185) (some blk))
  have NB : Hid (some w.heap.size ≠ some blk) := fun e => by have := S.lt; cases e; omega
  have HZ := Lib.hid hs
  clear S hs
  go_enter Tryz.func202, Tryz.ntmps202
  have ecast : (((b - a : Nat)) : Int) = (b : Int) - (a : Int) := by omega
  go_wp2
  generalize w.alloc (.cells #[.func (.func g) #[] lb, .func (.func sf) #[] sb] 185) = w1 at *
  go_loopw [9] (fun v wr => ∃ (kz : Int) (k : Nat) (dk : Array α), v = .int .i64 kz ∧ kz ≤ (k : Int) - 1 ∧ (k : Int) - 1 ≤ kz ∧ k ≤ (b - a - 1) / 2 + 1 ∧ Hid (dk.size = size) ∧ Hid (St enc w0 blk off dk wr) ∧ Hid (Tw wr w.heap.size (.func (.func g) #[] lb) (.func (.func sf) #[] sb)) ∧ Hid (w.grownBy wr (some blk)) ∧ Hid (heapBuild lt (b - a) a k dk = heapBuild lt (b - a) a ((b - a - 1) / 2 + 1) d)) (fun v _ => (intOf v + 1).toNat)
  case atStart => exact ⟨_, (b - a - 1) / 2 + 1, d, rfl, Int.le_of_eq (half_start hab), Int.le_of_eq (half_start hab).symm, Nat.le_refl _, HZ.out, HS.out, HT.out, HG.out, rfl⟩
  case round =>
    clear HS HT HG HZ
    obtain ⟨kz, k, dk, rfl, hk1, hk2, hk3, HZ, HS, HT, HG, HO⟩ := hrel
    cases k with
    | zero =>
      have hneg : ¬ kz ≥ 0 := by omega
      have HB : Hid (heapBuild lt (b - a) a ((b - a - 1) / 2 + 1) d = dk) := HO.out.symm
      clear HO
      go_wp2
      go_loopw [10] (fun v wr => ∃ (jz : Int) (k : Nat) (dj : Array α), v = .int .i64 jz ∧ jz ≤ (k : Int) - 1 ∧ (k : Int) - 1 ≤ jz ∧ k ≤ b - a ∧ Hid (dj.size = size) ∧ Hid (St enc w0 blk off dj wr) ∧ Hid (Tw wr w.heap.size (.func (.func g) #[] lb) (.func (.func sf) #[] sb)) ∧ Hid (w.grownBy wr (some blk)) ∧ Hid (heapPop lt a k dj = heapPop lt a (b - a) dk)) (fun v _ => (intOf v + 1).toNat)
      case atStart => exact ⟨_, b - a, dk, rfl, by omega, by omega, Nat.le_refl _, HZ.out, HS.out, HT.out, HG.out, rfl⟩
      case round =>
        clear HS HT HG HZ
        obtain ⟨jz, k, dj, rfl, hj1, hj2, hj3, HZ, HS, HT, HG, HO⟩ := hrel
        cases k with
        | zero =>
          have hneg2 : ¬ jz ≥ 0 := by omega
          have HF : Hid (heapSort lt d a b = dj) := show _ = _ by rw [heapSort, HB.out, ← HO.out]; rfl
          go_wp2
          go_end0
          exact ⟨rfl, by rw [HF.out]; exact HS.out, HG.out⟩
        | succ k =>
          obtain rfl : jz = (k : Int) := by omega
          have hpos2 : (k : Int) ≥ 0 := by omega
          have HX := Lib.hid (E.swp HS.out HZ.out (a) (a + k) (by omega) (by omega))
          rw [show ((((a + k) : Nat)) : Int) = (a : Int) + (k : Int) by omega] at HX
          have d0 := HT.out.2
          replace HS := Lib.hid (HS.out.swap (i := a) (j := a + k) (by rw [HZ.out]; omega) (by rw [HZ.out]; omega))
          replace HT := Lib.hid (HT.out.grown (xch_grown enc wr blk off dj (a) (a + k)) NB.out)
          replace HG := Lib.hid (gr_trans HG.out (xch_grown enc wr blk off dj (a) (a + k)))
          have HY' : Hid ((swp dj (a) (a + k)).size = size) := (size_swp _ _ _).trans HZ.out
          go_wp2_with fail
          rw [HX.out, Oper.upon_value]
          clear HX d0
          generalize xch enc wr blk off dj (a) (a + k) = w12 at *
          generalize hdn : swp dj (a) (a + k) = dn at *
          have HEdn := Lib.hid hdn
          clear hdn
          have c0 := HT.out.1
          have c1 := HT.out.2
          have C := Lib.hid (sift E 0 k a dn w12 HS.out HY'.out (by omega) (by omega))
          rw [show ((((0 : Nat)) : Int)) = 0 from rfl] at C
          go_wp2_with fail
          refine C.out.mono ?_
          rintro e w30 ⟨rfl, hS, hG⟩
          have HS2 := Lib.hid hS
          have HT2 := Lib.hid (HT.out.grown hG NB.out)
          have HG2 := Lib.hid (gr_trans HG.out hG)
          have HZ2 : Hid ((siftDown lt k a 0 dn).size = size) := (size_siftDown lt _ _ _ _ _ (Nat.le_refl _)).trans HY'.out
          have HN : Hid (heapPop lt a k (siftDown lt k a 0 dn) = heapPop lt a (b - a) dk) := show _ = _ by rw [← HO.out, ← HEdn.out]; rfl
          clear hS hG HS HT HG C c0 c1 HO HEdn HY'
          generalize siftDown lt k a 0 dn = dm at *
          go_wp2
          go_roundw
          case rel => exact ⟨_, k, dm, rfl, by omega, by omega, by omega, HZ2.out, HS2.out, HT2.out, HG2.out, HN.out⟩
          case measure => (simp [intOf] <;> omega)
    | succ k =>
      obtain rfl : kz = (k : Int) := by omega
      have hpos : (k : Int) ≥ 0 := by omega
      have c0 := HT.out.1
      have c1 := HT.out.2
      have C := Lib.hid (sift E k (b - a) a dk wr HS.out HZ.out (by omega) (by omega))
      rw [ecast] at C
      go_wp2_with fail
      refine C.out.mono ?_
      rintro e w30 ⟨rfl, hS, hG⟩
      have HS2 := Lib.hid hS
      have HT2 := Lib.hid (HT.out.grown hG NB.out)
      have HG2 := Lib.hid (gr_trans HG.out hG)
      have HZ2 : Hid ((siftDown lt (b - a) a k dk).size = size) := (size_siftDown lt _ _ _ _ _ (Nat.le_refl _)).trans HZ.out
      have HN : Hid (heapBuild lt (b - a) a k (siftDown lt (b - a) a k dk) = heapBuild lt (b - a) a ((b - a - 1) / 2 + 1) d) := show _ = _ by rw [← HO.out]; rfl
      clear hS hG HS HT HG C c0 c1 HO
      generalize siftDown lt (b - a) a k dk = dm at *
      go_wp2
      go_roundw
      case rel => exact ⟨_, k, dm, rfl, by omega, by omega, by omega, HZ2.out, HS2.out, HT2.out, HG2.out, HN.out⟩
      case measure => (simp [intOf] <;> omega)

end
end Go.Proofs.YtmkcjjgicinggaaGreatDoor.GsHeap
