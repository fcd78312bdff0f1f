/- What the model's Under does: it tells whether the labels of its second text end those of its first. Condition: at most 400000000 bytes each. -/
import Derived.Test.YtmkcjjgicinggaaGreatDoorLabSpec
import Derived.Test.YtmkcjjgicinggaaGreatDoorNameMath
import Derived.Deep.QuietTactic
import Derived.BigQuiet
namespace Go.Proofs.YtmkcjjgicinggaaGreatDoor.Under
open Go.RowKit Go.Proofs.YtmkcjjgicinggaaGreatDoor.Mem Go.Proofs.YtmkcjjgicinggaaGreatDoor.MemS Go.Proofs.YtmkcjjgicinggaaGreatDoor.AppS Go.Proofs.YtmkcjjgicinggaaGreatDoor.Split Go.Proofs.YtmkcjjgicinggaaGreatDoor.NameMath

set_option maxHeartbeats 2000000 in
theorem spec (a b : ByteArray) (w : World) (ha : a.size ≤ 400000000) (hb : b.size ≤ 400000000) : Calls Tryz.prog 79 #[.string a, .string b] w fun e w' => e = .returned (.bool (Un a b)) ∧ Below w.heap.size w w' := by
  have SA := Lib.hid (fun w => Labels.spec a w ha)
  have SB := Lib.hid (fun w => Labels.spec b w hb)
  have hla := lab_len a
  have hlb := lab_len b
  have HU : Hid (Un a b = pfx (Lab b).reverse (Lab a).reverse) := rfl
  generalize Un a b = U at *
  generalize Lab a = X at *
  generalize Lab b = Y at *
  have HX : Hid (X.length ≤ 400000001) := by show _ ≤ _; omega
  have HY : Hid (Y.length ≤ 400000001) := by show _ ≤ _; omega
  clear hla hlb ha hb
  go_enter Tryz.func79, Tryz.ntmps79
  go_wp2_with fail
  refine (SA.out w).mono ?_
  rintro e w1 ⟨gx, n, cx, rx, rfl, hm, hcx, hg, hk, hl⟩
  have hn : n ≤ 400000001 := by have := HX.out; omega
  have NX := Lib.hid hm
  have X1 := Lib.hid hk
  have L1 := Lib.hid hl
  clear hm hg hk hl HX
  go_wp2_with fail
  refine (SB.out w1).mono ?_
  rintro e w2 ⟨gy, m, cy, ry, rfl, hm, hcy, hg, hk, hl⟩
  have hm' : m ≤ 400000001 := by have := HY.out; omega
  have NY := Lib.hid hm
  have Y2 := Lib.hid hk
  have X2 := Lib.hid (X1.out.below hl X1.out.lt)
  have L2 := Lib.hid (L1.out.trans (hl.mono L1.out.size))
  clear hm hg hk hl HY X1 L1
  by_cases hlen : n < m
  · have HF := Lib.hid (HU.out.trans (pfx_long (by rw [List.length_reverse, List.length_reverse, NX.out, NY.out]; exact hlen)))
    go_wp2
    go_ret
    rw [HF.out]
    exact ⟨rfl, L2.out⟩
  · have hlen' : ¬ (n : Int) < (m : Int) := by omega
    go_wp2
    go_loopw [7] (fun i wr => ∃ k : Nat, k ≤ m ∧ i = .int .i64 (k + 1) ∧ Hid (U = pfx (Y.reverse.drop k) (X.reverse.drop k)) ∧ Hid (Bk wr gx 9 (X.map tv ++ rx)) ∧ Hid (Bk wr gy 9 (Y.map tv ++ ry)) ∧ Hid (Below w.heap.size w wr)) (fun i _ => m + 1 - (intOf i).toNat)
    case atStart => exact ⟨0, Nat.zero_le _, rfl, HU.out, X2.out, Y2.out, L2.out⟩
    case round =>
      clear X2 Y2 L2 HU
      obtain ⟨k, hk, rfl, HU, XR, YR, LR⟩ := hrel
      by_cases hlt : k < m
      · obtain ⟨jx, hjx⟩ : ∃ j, j + k + 1 = n := ⟨n - k - 1, by omega⟩
        obtain ⟨jy, hjy⟩ : ∃ j, j + k + 1 = m := ⟨m - k - 1, by omega⟩
        have EX := rev_drop X jx k (by rw [NX.out]; exact hjx)
        have EY := rev_drop Y jy k (by rw [NY.out]; exact hjy)
        have hcx' : wr.cell? ⟨gx, jx, none⟩ = some (.string (X[jx]'(by rw [NX.out]; omega))) := by
          rw [XR.out.cell, List.getElem?_append_left (by rw [List.length_map, NX.out]; omega), tv_get]
        have hcy' : wr.cell? ⟨gy, jy, none⟩ = some (.string (Y[jy]'(by rw [NY.out]; omega))) := by
          rw [YR.out.cell, List.getElem?_append_left (by rw [List.length_map, NY.out]; omega), tv_get]
        have HR := HU.out
        rw [EX, EY, pfx] at HR
        clear EX EY
        generalize X[jx]'(by rw [NX.out]; omega) = p at *
        generalize Y[jy]'(by rw [NY.out]; omega) = q at *
        have HR' := Lib.hid HR
        clear HR HU
        have hsx : (n : Int) - ((k : Int) + 1) = (jx : Int) := by omega
        have hsy : (m : Int) - ((k : Int) + 1) = (jy : Int) := by omega
        cases hq : (p.data.toList == q.data.toList) with
        | true =>
          have HN : Hid (U = pfx (Y.reverse.drop (k + 1)) (X.reverse.drop (k + 1))) := by
            show _ = _
            rw [HR'.out, hq]
            rfl
          have hq2 : (!(p.toList == q.toList)) = false := by rw [ByteArray.toList_eq, ByteArray.toList_eq, hq]; rfl
          clear HR' hq
          go_wp2
          go_quiet (fail)
          go_wp2
          go_roundw
          case rel => exact ⟨k + 1, by omega, by go_num, HN.out, XR.out, YR.out, (LR.out.trans (drewN_below _ _ _) : Below w.heap.size w (wr.drewN nq))⟩
          case measure => simp [intOf]; omega
        | false =>
          have HN : Hid (U = false) := by
            show _ = _
            rw [HR'.out, hq]
            rfl
          have hq2 : (!(p.toList == q.toList)) = true := by rw [ByteArray.toList_eq, ByteArray.toList_eq, hq]; rfl
          clear HR' hq
          go_wp2
          go_quiet (fail)
          go_wp2
          go_ret
          rw [HN.out]
          exact ⟨rfl, LR.out.trans (drewN_below _ _ _)⟩
      · have HN : Hid (U = true) := by
          show _ = _
          rw [HU.out, rev_end Y k (by rw [NY.out]; omega)]
          rfl
        go_wp2
        go_ret
        rw [HN.out]
        exact ⟨rfl, LR.out⟩
end Go.Proofs.YtmkcjjgicinggaaGreatDoor.Under
