/- What NameOk does in the program and in the model: it tells whether a text has at most 50 bytes and at most 6 labels, all of them valid. Condition: at most 2000000 bytes; for the program: the library's variable internal/bytealg.MaxLen holds an int. -/
import Derived.Test.YtebodggjcndbeaaDoorParts
import Derived.Test.YtebodggjcndbeaaDoorLabel
import Derived.Test.YtebodggjcndbeaaDoorUp
namespace Go.Proofs.YtebodggjcndbeaaDoor.NameOk
open Go.RowKit Go.Proofs.YtebodggjcndbeaaDoor.Mem Go.Proofs.YtebodggjcndbeaaDoor.MemS Go.Proofs.YtebodggjcndbeaaDoor.AppS Go.Proofs.YtebodggjcndbeaaDoor.Split Go.Proofs.YtebodggjcndbeaaDoor.Labels Go.Proofs.YtebodggjcndbeaaDoor.Label

/-- Valid labels. -/
def okL (L : List ByteArray) : Bool := L.all fun x => lok x.data.toList
/-- A valid name. A def, so that no step of a walk opens it. -/
def Nm (s : ByteArray) : Bool := okL (Lab s) && decide (s.size ≤ 50) && decide ((Lab s).length ≤ 6)
theorem ok_step {L : List ByteArray} {k : Nat} (h : k < L.length) (hk : okL (L.take k) = true) (hx : lok L[k].data.toList = true) : okL (L.take (k + 1)) = true := by
  rw [List.take_succ_eq_append_getElem h, okL, List.all_append, Bool.and_eq_true]
  exact ⟨hk, by simp [hx]⟩
theorem ok_bad {L : List ByteArray} {k : Nat} (h : k < L.length) (hx : lok L[k].data.toList = false) : okL L = false := by
  rw [okL, List.all_eq_false]
  exact ⟨L[k], List.getElem_mem h, by simp [hx]⟩
/-- A label of a text is no longer than the text. -/
theorem lab_short (s : ByteArray) (k : Nat) (h : k < (Lab s).length) : (Lab s)[k].size ≤ s.size := by
  have h1 : ((Lab s)[k]).size ≤ ((Lab s).map (·.size)).sum := le_sum _ _ (List.mem_map.2 ⟨_, List.getElem_mem h, rfl⟩)
  have h2 := Up.lab_sum s
  omega

set_option maxHeartbeats 2000000 in
theorem spec (s : ByteArray) (w : World) (hs : s.size ≤ 2000000) : Calls Tryd.prog 12 #[.string s] w fun e w' => e = .returned (.bool (Nm s)) ∧ Below w.heap.size w w' := by
  have SP := Lib.hid (fun w => Labels.spec s w hs)
  have HU : Hid (Nm s = (okL (Lab s) && decide (s.size ≤ 50) && decide ((Lab s).length ≤ 6))) := rfl
  have hll := lab_len s
  have HS := Lib.hid (lab_short s)
  generalize Nm s = U at *
  generalize Lab s = L at *
  have HN : Hid (L.length ≤ 2000001) := by show _ ≤ _; omega
  clear hll
  go_enter Tryd.func12, Tryd.ntmps12
  go_wp2_with fail
  refine (SP.out w).mono ?_
  rintro e w1 ⟨g, n, c, r, rfl, hm, hc, hg, hk, hl⟩
  have NL := Lib.hid hm
  have hn : n ≤ 2000001 := by have := HN.out; omega
  have K1 := Lib.hid (bk_ssw hk hm)
  have L1 := Lib.hid hl
  clear hm hg hk hl
  go_wp2
  go_loop [4] (fun i => ∃ k : Nat, k ≤ n ∧ i = .int .i64 k ∧ Hid (okL (L.take k) = true)) (fun i => n - (intOf i).toNat)
  case atStart => exact ⟨0, Nat.zero_le _, rfl, rfl⟩
  case round =>
    obtain ⟨k, hk, rfl, HK⟩ := hrel
    by_cases hlt : k < n
    · obtain ⟨_, _, e1, _, hcs⟩ := K1.out.2 (by omega)
      cases e1
      have hkl : k < L.length := by rw [NL.out]; exact hlt
      have hx : w1.cell? ⟨g, k, none⟩ = some (.string L[k]) := by have := hcs k hkl; rwa [Nat.zero_add] at this
      have hxs : L[k].size ≤ 2000000 := Nat.le_trans (HS.out k hkl) hs
      clear hcs
      cases hb : lok L[k].data.toList with
      | true =>
        have HN1 := Lib.hid (ok_step hkl HK.out hb)
        have HB := Lib.hid hb
        clear hb
        go_wp2_with fail
        refine (spec_any L[k] w1 (by omega)).mono ?_
        rw [HB.out]
        rintro e w2 ⟨rfl, rfl⟩
        go_wp2
        go_round
        case rel => exact ⟨k + 1, by omega, by go_num, HN1.out⟩
        case measure => simp [intOf]; omega
      | false =>
        have HN1 : Hid (U = false) := by
          show _ = _
          rw [HU.out, ok_bad hkl hb]
          rfl
        have HB := Lib.hid hb
        clear hb
        go_wp2_with fail
        refine (spec_any L[k] w1 (by omega)).mono ?_
        rw [HB.out]
        rintro e w2 ⟨rfl, rfl⟩
        go_wp2
        go_ret
        rw [HN1.out]
        exact ⟨rfl, L1.out⟩
    · have HA : Hid (okL L = true) := by
        have := HK.out
        rw [List.take_of_length_le (by rw [NL.out]; omega)] at this
        exact this
      have HV : Hid (U = (decide (s.size ≤ 50) && decide (n ≤ 6))) := by
        show _ = _
        rw [HU.out, HA.out, NL.out]
        rfl
      clear HU HK
      by_cases h1 : s.size ≤ 50
      · have h1' : ((s.size : Int) ≤ 50) := by omega
        go_wp2
        go_ret
        rw [HV.out]
        refine ⟨?_, L1.out⟩
        simp [h1]
        omega
      · have h1' : ¬ ((s.size : Int) ≤ 50) := by omega
        go_wp2
        go_ret
        rw [HV.out]
        refine ⟨?_, L1.out⟩
        simp [h1]

set_option maxHeartbeats 2000000 in
theorem impl (s : ByteArray) (w : World) (he : Env w) (hs : s.size ≤ 2000000) : Calls Tryd.prog 13 #[.string s] w fun e w' => e = .returned (.bool (Nm s)) ∧ Below w.heap.size w w' := by
  have HE := Lib.hid he
  clear he
  have SP := Lib.hid (fun w he => Labels.impl s w he hs)
  have PA := Lib.hid (fun w he => Parts.impl s w he hs)
  have HU : Hid (Nm s = (okL (Lab s) && decide (s.size ≤ 50) && decide ((Lab s).length ≤ 6))) := rfl
  have HS := Lib.hid (lab_short s)
  generalize Nm s = U at *
  by_cases h1 : s.size ≤ 50
  · have h1' : ¬ ((50 : Int) < (s.size : Int)) := by omega
    have hll := lab_len s
    generalize Lab s = L at *
    by_cases h2 : L.length ≤ 6
    · have h2' : ¬ ((6 : Int) < (L.length : Int)) := by omega
      have HV : Hid (U = okL L) := by
        show _ = _
        rw [HU.out, decide_eq_true h1, decide_eq_true h2]
        simp
      clear HU hll
      go_enter Tryd.func13, Tryd.ntmps13
      go_wp2_with fail
      refine (PA.out w HE.out).mono ?_
      rintro e w1 ⟨rfl, hl⟩
      have L1 := Lib.hid hl
      clear hl
      go_wp2_with fail
      refine (SP.out w1 (HE.out.below L1.out)).mono ?_
      rintro e w2 ⟨g, n, c, r, rfl, hm, hc, hg, hk, hl⟩
      have NL := Lib.hid hm
      have hn : n ≤ 6 := by omega
      have K1 := Lib.hid hk
      have L2 := Lib.hid (L1.out.trans (hl.mono L1.out.size))
      clear hm hg hk hl h2 h2'
      go_wp2
      go_loopw [16] (fun i wr => ∃ k : Nat, k ≤ n ∧ i = .int .i64 k ∧ Hid (okL (L.take k) = true) ∧ Hid (Bk wr g 9 (L.map tv ++ r)) ∧ Hid (Below w.heap.size w wr)) (fun i _ => n - (intOf i).toNat)
      case atStart => exact ⟨0, Nat.zero_le _, rfl, rfl, K1.out, L2.out⟩
      case round =>
        clear K1 L2
        obtain ⟨k, hk, rfl, HK, K1, L2⟩ := hrel
        by_cases hlt : k < n
        · have hkl : k < L.length := by rw [NL.out]; exact hlt
          have hx : wr.cell? ⟨g, k, none⟩ = some (.string L[k]) := by
            rw [K1.out.cell, List.getElem?_append_left (by rw [List.length_map]; exact hkl), tv_get]
          have hxs : L[k].size ≤ 2000000 := Nat.le_trans (HS.out k hkl) hs
          cases hb : lok L[k].data.toList with
          | true =>
            have HN1 := Lib.hid (ok_step hkl HK.out hb)
            have HB := Lib.hid hb
            clear hb
            go_wp2_with fail
            refine (impl_any L[k] wr (by omega)).mono ?_
            rw [HB.out]
            rintro e w3 ⟨rfl, hl⟩
            have K3 := Lib.hid (K1.out.below hl K1.out.lt)
            have L3 := Lib.hid (L2.out.trans (hl.mono L2.out.size))
            clear hl hx K1 L2
            go_wp2
            go_roundw
            case rel => exact ⟨k + 1, by omega, by go_num, HN1.out, K3.out, L3.out⟩
            case measure => simp [intOf]; omega
          | false =>
            have HN1 : Hid (U = false) := by
              show _ = _
              rw [HV.out, ok_bad hkl hb]
            have HB := Lib.hid hb
            clear hb
            go_wp2_with fail
            refine (impl_any L[k] wr (by omega)).mono ?_
            rw [HB.out]
            rintro e w3 ⟨rfl, hl⟩
            have L3 := Lib.hid (L2.out.trans (hl.mono L2.out.size))
            clear hl hx K1 L2
            go_wp2
            go_ret
            rw [HN1.out]
            exact ⟨rfl, L3.out⟩
        · have HA : Hid (U = true) := by
            have := HK.out
            rw [List.take_of_length_le (by rw [NL.out]; omega)] at this
            exact HV.out.trans this
          go_wp2
          go_ret
          rw [HA.out]
          exact ⟨rfl, L2.out⟩
    · have h2' : ((6 : Int) < (L.length : Int)) := by omega
      have HV : Hid (U = false) := by
        show _ = _
        rw [HU.out, decide_eq_false h2]
        simp
      clear HU hll
      go_enter Tryd.func13, Tryd.ntmps13
      go_wp2_with fail
      refine (PA.out w HE.out).mono ?_
      rintro e w1 ⟨rfl, hl⟩
      have L1 := Lib.hid hl
      clear hl
      go_wp2
      go_ret
      rw [HV.out]
      exact ⟨rfl, L1.out⟩
  · have h1' : ((50 : Int) < (s.size : Int)) := by omega
    have HV : Hid (U = false) := by
      show _ = _
      rw [HU.out, decide_eq_false h1]
      simp
    clear HU
    go_enter Tryd.func13, Tryd.ntmps13
    go_wp2
    go_ret
    rw [HV.out]
    exact ⟨rfl, Below.refl _ _⟩
end Go.Proofs.YtebodggjcndbeaaDoor.NameOk
