/- What the model's NameOk does: it tells whether a text has at most 50 bytes and at most 6 labels, all of them valid. Condition: at most 400000000 bytes. -/
import Derived.Test.YtkpcanigdppegaaDoorNameDef
namespace Go.Proofs.YtkpcanigdppegaaDoor.NameOk
open Go.RowKit Go.Proofs.YtkpcanigdppegaaDoor.Mem Go.Proofs.YtkpcanigdppegaaDoor.MemS Go.Proofs.YtkpcanigdppegaaDoor.AppS Go.Proofs.YtkpcanigdppegaaDoor.Split Go.Proofs.YtkpcanigdppegaaDoor.Labels Go.Proofs.YtkpcanigdppegaaDoor.Label

set_option maxHeartbeats 2000000 in
theorem spec (s : ByteArray) (w : World) (hs : s.size ≤ 400000000) : Calls Tryd.prog 52 #[.string s] w fun e w' => e = .returned (.bool (Nm s)) ∧ Below w.heap.size w w' := by
  have SP := Lib.hid (fun w => Labels.spec s w hs)
  have HU : Hid (Nm s = (okL (Lab s) && decide (s.size ≤ 50) && decide ((Lab s).length ≤ 6))) := rfl
  have hll := lab_len s
  have HS := Lib.hid (lab_short s)
  generalize Nm s = U at *
  generalize Lab s = L at *
  have HN : Hid (L.length ≤ 400000001) := by show _ ≤ _; omega
  clear hll
  go_enter Tryd.func52, Tryd.ntmps52
  go_wp2_with fail
  refine (SP.out w).mono ?_
  rintro e w1 ⟨g, n, c, r, rfl, hm, hc, hg, hk, hl⟩
  have NL := Lib.hid hm
  have hn : n ≤ 400000001 := by have := HN.out; omega
  have K1 := Lib.hid (bk_ssw hk hm)
  have L1 := Lib.hid hl
  clear hm hg hk hl
  go_wp2
  go_loop [4] (fun i => ∃ k : Nat, k ≤ n ∧ i = .int .i64 k ∧ Hid (okL (L.take k) = true)) (fun i => n - (intOf i).toNat)
  case atStart => exact ⟨0, Nat.zero_le _, rfl, rfl⟩
  case round =>
    obtain ⟨k, hk, rfl, HK⟩ := hrel
    by_cases hlt : k < n
    · obtain ⟨_, _, e1, _, hcs⟩ := K1.out.2 (by omega)
      cases e1
      have hkl : k < L.length := by rw [NL.out]; exact hlt
      have hx : w1.cell? ⟨g, k, none⟩ = some (.string L[k]) := by have := hcs k hkl; rwa [Nat.zero_add] at this
      have hxs : L[k].size ≤ 400000000 := Nat.le_trans (HS.out k hkl) hs
      clear hcs
      cases hb : lok L[k].data.toList with
      | true =>
        have HN1 := Lib.hid (ok_step hkl HK.out hb)
        have HB := Lib.hid hb
        clear hb
        go_wp2_with fail
        refine (spec_any L[k] w1 (by omega)).mono ?_
        rw [HB.out]
        rintro e w2 ⟨rfl, rfl⟩
        go_wp2
        go_round
        case rel => exact ⟨k + 1, by omega, by go_num, HN1.out⟩
        case measure => simp [intOf]; omega
      | false =>
        have HN1 : Hid (U = false) := by
          show _ = _
          rw [HU.out, ok_bad hkl hb]
          rfl
        have HB := Lib.hid hb
        clear hb
        go_wp2_with fail
        refine (spec_any L[k] w1 (by omega)).mono ?_
        rw [HB.out]
        rintro e w2 ⟨rfl, rfl⟩
        go_wp2
        go_ret
        rw [HN1.out]
        exact ⟨rfl, L1.out⟩
    · have HA : Hid (okL L = true) := by
        have := HK.out
        rw [List.take_of_length_le (by rw [NL.out]; omega)] at this
        exact this
      have HV : Hid (U = (decide (s.size ≤ 50) && decide (n ≤ 6))) := by
        show _ = _
        rw [HU.out, HA.out, NL.out]
        rfl
      clear HU HK
      by_cases h1 : s.size ≤ 50
      · have h1' : ((s.size : Int) ≤ 50) := by omega
        go_wp2
        go_ret
        rw [HV.out]
        refine ⟨?_, L1.out⟩
        simp [h1]
        omega
      · have h1' : ¬ ((s.size : Int) ≤ 50) := by omega
        go_wp2
        go_ret
        rw [HV.out]
        refine ⟨?_, L1.out⟩
        simp [h1]
end Go.Proofs.YtkpcanigdppegaaDoor.NameOk
