/- What LessName does in the program and in the model: it compares the labels of two names from the last to the first. Condition: at most 400000000 bytes each; for the program: the library's variable internal/bytealg.MaxLen holds an int. -/
import Derived.Test.YtmkcjjgicinggaaGreatDoorLabels
import Derived.Test.YtmkcjjgicinggaaGreatDoorNameMath
import Derived.Deep.QuietTactic
import Derived.BigQuiet
namespace Go.Proofs.YtmkcjjgicinggaaGreatDoor.Less
open Go.RowKit Go.Proofs.YtmkcjjgicinggaaGreatDoor.Mem Go.Proofs.YtmkcjjgicinggaaGreatDoor.MemS Go.Proofs.YtmkcjjgicinggaaGreatDoor.AppS Go.Proofs.YtmkcjjgicinggaaGreatDoor.Split Go.Proofs.YtmkcjjgicinggaaGreatDoor.Labels Go.Proofs.YtmkcjjgicinggaaGreatDoor.NameMath
open Go.Op (bytesLess)

theorem ln_none (x : List ByteArray) : ln x [] = false := by cases x <;> rfl
theorem ln_some (y : List ByteArray) (h : 0 < y.length) : ln [] y = true := by
  cases y with
  | nil => simp at h
  | cons => rfl
theorem ln_end {x y : List ByteArray} (k : Nat) (hx : k ≤ x.length) (hy : k ≤ y.length) (h : x.length ≤ k ∨ y.length ≤ k) : ln (x.reverse.drop k) (y.reverse.drop k) = decide (x.length < y.length) := by
  by_cases hk : y.length ≤ k
  · rw [rev_end y k hk, ln_none]
    exact (decide_eq_false (by omega)).symm
  · rw [rev_end x k (h.resolve_right hk), ln_some _ (by simp; omega)]
    exact (decide_eq_true (by omega)).symm

set_option maxHeartbeats 4000000 in
theorem spec (a b : ByteArray) (w : World) (ha : a.size ≤ 400000000) (hb : b.size ≤ 400000000) : Calls Tryz.prog 224 #[.string a, .string b] w fun e w' => e = .returned (.bool (Ls a b)) ∧ Below w.heap.size w w' := by
  have SA := Lib.hid (fun w => Labels.spec a w ha)
  have SB := Lib.hid (fun w => Labels.spec b w hb)
  have hla := lab_len a
  have hlb := lab_len b
  have HU : Hid (Ls a b = ln (Lab a).reverse (Lab b).reverse) := rfl
  generalize Ls a b = U at *
  generalize Lab a = X at *
  generalize Lab b = Y at *
  have HX : Hid (X.length ≤ 400000001) := by show _ ≤ _; omega
  have HY : Hid (Y.length ≤ 400000001) := by show _ ≤ _; omega
  clear hla hlb ha hb
  go_enter Tryz.func224, Tryz.ntmps224
  go_wp2_with fail
  refine (SA.out w).mono ?_
  rintro e w1 ⟨gx, n, cx, rx, rfl, hm, hcx, hg, hk, hl⟩
  have hn : n ≤ 400000001 := by have := HX.out; omega
  have NX := Lib.hid hm
  have X1 := Lib.hid hk
  have L1 := Lib.hid hl
  clear hm hg hk hl HX
  go_wp2_with fail
  refine (SB.out w1).mono ?_
  rintro e w2 ⟨gy, m, cy, ry, rfl, hm, hcy, hg, hk, hl⟩
  have hm' : m ≤ 400000001 := by have := HY.out; omega
  have NY := Lib.hid hm
  have X2 := Lib.hid (bk_ssw (X1.out.below hl X1.out.lt) NX.out)
  have Y2 := Lib.hid (bk_ssw hk NY.out)
  have L2 := Lib.hid (L1.out.trans (hl.mono L1.out.size))
  clear hm hg hk hl HY X1 L1
  go_wp2
  go_loop [7, 8, 9] (fun i p q => ∃ k : Nat, k ≤ n ∧ k ≤ m ∧ i = .int .i64 (k + 1) ∧ Hid (U = ln (X.reverse.drop k) (Y.reverse.drop k))) (fun i _ _ => m + 1 - (intOf i).toNat)
  case atStart => exact ⟨0, Nat.zero_le _, Nat.zero_le _, rfl, HU.out⟩
  case round =>
    clear HU
    obtain ⟨k, hk, hk', rfl, HU⟩ := hrel
    by_cases hlt : k < n
    · by_cases hlt' : k < m
      · obtain ⟨jx, hjx⟩ : ∃ j, j + k + 1 = n := ⟨n - k - 1, by omega⟩
        obtain ⟨jy, hjy⟩ : ∃ j, j + k + 1 = m := ⟨m - k - 1, by omega⟩
        have EX := rev_drop X jx k (by rw [NX.out]; exact hjx)
        have EY := rev_drop Y jy k (by rw [NY.out]; exact hjy)
        obtain ⟨_, _, e1, _, hcs⟩ := X2.out.2 (by omega)
        obtain ⟨_, _, e2, _, hcs2⟩ := Y2.out.2 (by omega)
        cases e1
        cases e2
        have hcx' : w2.cell? ⟨gx, jx, none⟩ = some (.string (X[jx]'(by rw [NX.out]; omega))) := by have := hcs jx (by rw [NX.out]; omega); rwa [Nat.zero_add] at this
        have hcy' : w2.cell? ⟨gy, jy, none⟩ = some (.string (Y[jy]'(by rw [NY.out]; omega))) := by have := hcs2 jy (by rw [NY.out]; omega); rwa [Nat.zero_add] at this
        have HR := HU.out
        rw [EX, EY, ln] at HR
        clear EX EY hcs hcs2
        generalize X[jx]'(by rw [NX.out]; omega) = p at *
        generalize Y[jy]'(by rw [NY.out]; omega) = q at *
        have HR' := Lib.hid HR
        clear HR HU
        have hsx : (n : Int) - ((k : Int) + 1) = (jx : Int) := by omega
        have hsy : (m : Int) - ((k : Int) + 1) = (jy : Int) := by omega
        cases hq : (p.data.toList == q.data.toList) with
        | true =>
          have HN : Hid (U = ln (X.reverse.drop (k + 1)) (Y.reverse.drop (k + 1))) := by
            show _ = _
            rw [HR'.out, hq]
            rfl
          have hq2 : (!(p.toList == q.toList)) = false := by rw [ByteArray.toList_eq, ByteArray.toList_eq, hq]; rfl
          clear HR'
          go_wp2
          go_round
          case rel => exact ⟨k + 1, by omega, by omega, by go_num, HN.out⟩
          case measure => simp [intOf]; omega
        | false =>
          have HN : Hid (U = bytesLess p.toList q.toList) := by
            show _ = _
            rw [HR'.out, hq, ByteArray.toList_eq, ByteArray.toList_eq]
            rfl
          have hq2 : (!(p.toList == q.toList)) = true := by rw [ByteArray.toList_eq, ByteArray.toList_eq, hq]; rfl
          clear HR'
          go_wp2
          go_ret
          rw [HN.out]
          exact ⟨rfl, L2.out⟩
      · have HN := Lib.hid (HU.out.trans (ln_end k (by rw [NX.out]; exact hk) (by rw [NY.out]; exact hk') (Or.inr (by rw [NY.out]; omega))))
        go_wp2
        go_ret
        rw [HN.out, NX.out, NY.out]
        exact ⟨by simp, L2.out⟩
    · have HN := Lib.hid (HU.out.trans (ln_end k (by rw [NX.out]; exact hk) (by rw [NY.out]; exact hk') (Or.inl (by rw [NX.out]; omega))))
      go_wp2
      go_ret
      rw [HN.out, NX.out, NY.out]
      exact ⟨by simp, L2.out⟩

set_option maxHeartbeats 4000000 in
theorem impl (a b : ByteArray) (w : World) (he : Env w) (ha : a.size ≤ 400000000) (hb : b.size ≤ 400000000) : Calls Tryz.prog 112 #[.string a, .string b] w fun e w' => e = .returned (.bool (Ls a b)) ∧ Below w.heap.size w w' := by
  have HE := Lib.hid he
  clear he
  have SA := Lib.hid (fun w he => Labels.impl a w he ha)
  have SB := Lib.hid (fun w he => Labels.impl b w he hb)
  have hla := lab_len a
  have hlb := lab_len b
  have HU : Hid (Ls a b = ln (Lab a).reverse (Lab b).reverse) := rfl
  generalize Ls a b = U at *
  generalize Lab a = X at *
  generalize Lab b = Y at *
  have HX : Hid (X.length ≤ 400000001) := by show _ ≤ _; omega
  have HY : Hid (Y.length ≤ 400000001) := by show _ ≤ _; omega
  clear hla hlb ha hb
  go_enter Tryz.func112, Tryz.ntmps112
  go_wp2_with fail
  refine (SA.out w HE.out).mono ?_
  rintro e w1 ⟨gx, n, cx, rx, rfl, hm, hcx, hg, hk, hl⟩
  have hn : n ≤ 400000001 := by have := HX.out; omega
  have NX := Lib.hid hm
  have X1 := Lib.hid hk
  have L1 := Lib.hid hl
  clear hm hg hk hl HX
  go_wp2_with fail
  refine (SB.out w1 (HE.out.below L1.out)).mono ?_
  rintro e w2 ⟨gy, m, cy, ry, rfl, hm, hcy, hg, hk, hl⟩
  have hm' : m ≤ 400000001 := by have := HY.out; omega
  have NY := Lib.hid hm
  have X2 := Lib.hid (bk_ssw (X1.out.below hl X1.out.lt) NX.out)
  have Y2 := Lib.hid (bk_ssw hk NY.out)
  have L2 := Lib.hid (L1.out.trans (hl.mono L1.out.size))
  clear hm hg hk hl HY X1 L1
  go_wp2
  go_loopw [7, 8] (fun i j wr => ∃ k : Nat, k ≤ n ∧ k ≤ m ∧ i = .int .i64 ((n : Int) - 1 - k) ∧ j = .int .i64 ((m : Int) - 1 - k) ∧ Hid (U = ln (X.reverse.drop k) (Y.reverse.drop k)) ∧ Hid (Ss wr w2.heap.size (some ⟨gx, 0, none⟩) n X) ∧ Hid (Ss wr w2.heap.size (some ⟨gy, 0, none⟩) m Y) ∧ Hid (Below w.heap.size w wr)) (fun _ j _ => (intOf j + 1).toNat)
  case atStart => exact ⟨0, Nat.zero_le _, Nat.zero_le _, by simp, by simp, HU.out, X2.out, Y2.out, L2.out⟩
  case round =>
    clear HU X2 Y2 L2
    obtain ⟨k, hk, hk', rfl, rfl, HU, X2, Y2, L2⟩ := hrel
    by_cases hlt : k < n
    · obtain ⟨jx, hjx⟩ : ∃ j, j + k + 1 = n := ⟨n - k - 1, by omega⟩
      have hsx : (n : Int) - 1 - (k : Int) = (jx : Int) := by omega
      by_cases hlt' : k < m
      · obtain ⟨jy, hjy⟩ : ∃ j, j + k + 1 = m := ⟨m - k - 1, by omega⟩
        have hsy : (m : Int) - 1 - (k : Int) = (jy : Int) := by omega
        have EX := rev_drop X jx k (by rw [NX.out]; exact hjx)
        have EY := rev_drop Y jy k (by rw [NY.out]; exact hjy)
        obtain ⟨_, _, e1, _, hcs⟩ := X2.out.2 (by omega)
        obtain ⟨_, _, e2, _, hcs2⟩ := Y2.out.2 (by omega)
        cases e1
        cases e2
        have hcx' : wr.cell? ⟨gx, jx, none⟩ = some (.string (X[jx]'(by rw [NX.out]; omega))) := by have := hcs jx (by rw [NX.out]; omega); rwa [Nat.zero_add] at this
        have hcy' : wr.cell? ⟨gy, jy, none⟩ = some (.string (Y[jy]'(by rw [NY.out]; omega))) := by have := hcs2 jy (by rw [NY.out]; omega); rwa [Nat.zero_add] at this
        have HR := HU.out
        rw [EX, EY, ln] at HR
        clear EX EY hcs hcs2
        generalize X[jx]'(by rw [NX.out]; omega) = p at *
        generalize Y[jy]'(by rw [NY.out]; omega) = q at *
        have HR' := Lib.hid HR
        clear HR HU
        rw [hsx, hsy]
        have SX := Lib.hid hsx
        have SY := Lib.hid hsy
        clear hsx hsy
        cases hq : (p.data.toList == q.data.toList) with
        | true =>
          have HN : Hid (U = ln (X.reverse.drop (k + 1)) (Y.reverse.drop (k + 1))) := by
            show _ = _
            rw [HR'.out, hq]
            rfl
          have hq2 : (!(p.toList == q.toList)) = false := by rw [ByteArray.toList_eq, ByteArray.toList_eq, hq]; rfl
          clear HR' hq
          go_wp2
          go_quiet (fail)
          go_wp2
          go_roundw
          case rel => exact ⟨k + 1, by omega, by omega, by rw [← SX.out]; go_num, by rw [← SY.out]; go_num, HN.out, X2.out, Y2.out, L2.out.trans (drewN_below _ _ _)⟩
          case measure => simp [intOf]
        | false =>
          have HN : Hid (U = bytesLess p.toList q.toList) := by
            show _ = _
            rw [HR'.out, hq, ByteArray.toList_eq, ByteArray.toList_eq]
            rfl
          have hq2 : (!(p.toList == q.toList)) = true := by rw [ByteArray.toList_eq, ByteArray.toList_eq, hq]; rfl
          clear HR' hq
          go_wp2
          go_quiet (fail)
          have hcx2 : (wr.drewN nq).cell? ⟨gx, jx, none⟩ = some (.string p) := hcx'
          have hcy2 : (wr.drewN nq).cell? ⟨gy, jy, none⟩ = some (.string q) := hcy'
          have L3 : Hid (Below w.heap.size w (wr.drewN nq)) := L2.out.trans (drewN_below _ _ _)
          clear hcx' hcy' L2 X2 Y2
          generalize wr.drewN nq = w3 at *
          go_wp2
          go_quiet (fail)
          go_wp2
          go_ret
          rw [HN.out]
          exact ⟨rfl, L3.out.trans (drewN_below _ _ _)⟩
      · have HN := Lib.hid (HU.out.trans (ln_end k (by rw [NX.out]; exact hk) (by rw [NY.out]; exact hk') (Or.inr (by rw [NY.out]; omega))))
        rw [hsx]
        clear hsx
        go_wp2
        go_ret
        rw [HN.out, NX.out, NY.out]
        exact ⟨by simp, L2.out⟩
    · have HN := Lib.hid (HU.out.trans (ln_end k (by rw [NX.out]; exact hk) (by rw [NY.out]; exact hk') (Or.inl (by rw [NX.out]; omega))))
      go_wp2
      go_ret
      rw [HN.out, NX.out, NY.out]
      exact ⟨by simp, L2.out⟩
end Go.Proofs.YtmkcjjgicinggaaGreatDoor.Less
