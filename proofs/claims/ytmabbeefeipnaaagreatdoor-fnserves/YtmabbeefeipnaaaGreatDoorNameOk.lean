/- What the program's NameOk does: it tells whether a text has at most 50 bytes and at most 6 labels, all of them valid. Conditions: at most 400000000 bytes; the library's variable internal/bytealg.MaxLen holds an int. -/
import Derived.Test.YtmabbeefeipnaaaGreatDoorParts
import Derived.Test.YtmabbeefeipnaaaGreatDoorNameSpec
namespace Go.Proofs.YtmabbeefeipnaaaGreatDoor.NameOk
open Go.RowKit Go.Proofs.YtmabbeefeipnaaaGreatDoor.Mem Go.Proofs.YtmabbeefeipnaaaGreatDoor.MemS Go.Proofs.YtmabbeefeipnaaaGreatDoor.AppS Go.Proofs.YtmabbeefeipnaaaGreatDoor.Split Go.Proofs.YtmabbeefeipnaaaGreatDoor.Labels Go.Proofs.YtmabbeefeipnaaaGreatDoor.Label

set_option maxHeartbeats 2000000 in
theorem impl (s : ByteArray) (w : World) (he : Env w) (hs : s.size ≤ 400000000) : Calls Tryz.prog 65 #[.string s] w fun e w' => e = .returned (.bool (Nm s)) ∧ Below w.heap.size w w' := by
  have HE := Lib.hid he
  clear he
  have SP := Lib.hid (fun w he => Labels.impl s w he hs)
  have PA := Lib.hid (fun w he => Parts.impl s w he hs)
  have HU : Hid (Nm s = (okL (Lab s) && decide (s.size ≤ 50) && decide ((Lab s).length ≤ 6))) := rfl
  have HS := Lib.hid (lab_short s)
  generalize Nm s = U at *
  by_cases h1 : s.size ≤ 50
  · have h1' : ¬ ((50 : Int) < (s.size : Int)) := by omega
    have hll := lab_len s
    generalize Lab s = L at *
    by_cases h2 : L.length ≤ 6
    · have h2' : ¬ ((6 : Int) < (L.length : Int)) := by omega
      have HV : Hid (U = okL L) := by
        show _ = _
        rw [HU.out, decide_eq_true h1, decide_eq_true h2]
        simp
      clear HU hll
      go_enter Tryz.func65, Tryz.ntmps65
      go_wp2_with fail
      refine (PA.out w HE.out).mono ?_
      rintro e w1 ⟨rfl, hl⟩
      have L1 := Lib.hid hl
      clear hl
      go_wp2_with fail
      refine (SP.out w1 (HE.out.below L1.out)).mono ?_
      rintro e w2 ⟨g, n, c, r, rfl, hm, hc, hg, hk, hl⟩
      have NL := Lib.hid hm
      have hn : n ≤ 6 := by omega
      have K1 := Lib.hid hk
      have L2 := Lib.hid (L1.out.trans (hl.mono L1.out.size))
      clear hm hg hk hl h2 h2'
      go_wp2
      go_loopw [16] (fun i wr => ∃ k : Nat, k ≤ n ∧ i = .int .i64 k ∧ Hid (okL (L.take k) = true) ∧ Hid (Bk wr g 9 (L.map tv ++ r)) ∧ Hid (Below w.heap.size w wr)) (fun i _ => n - (intOf i).toNat)
      case atStart => exact ⟨0, Nat.zero_le _, rfl, rfl, K1.out, L2.out⟩
      case round =>
        clear K1 L2
        obtain ⟨k, hk, rfl, HK, K1, L2⟩ := hrel
        by_cases hlt : k < n
        · have hkl : k < L.length := by rw [NL.out]; exact hlt
          have hx : wr.cell? ⟨g, k, none⟩ = some (.string L[k]) := by
            rw [K1.out.cell, List.getElem?_append_left (by rw [List.length_map]; exact hkl), tv_get]
          have hxs : L[k].size ≤ 400000000 := Nat.le_trans (HS.out k hkl) hs
          cases hb : lok L[k].data.toList with
          | true =>
            have HN1 := Lib.hid (ok_step hkl HK.out hb)
            have HB := Lib.hid hb
            clear hb
            go_wp2_with fail
            refine (impl_any L[k] wr (by omega)).mono ?_
            rw [HB.out]
            rintro e w3 ⟨rfl, hl⟩
            have K3 := Lib.hid (K1.out.below hl K1.out.lt)
            have L3 := Lib.hid (L2.out.trans (hl.mono L2.out.size))
            clear hl hx K1 L2
            go_wp2
            go_roundw
            case rel => exact ⟨k + 1, by omega, by go_num, HN1.out, K3.out, L3.out⟩
            case measure => simp [intOf]; omega
          | false =>
            have HN1 : Hid (U = false) := by
              show _ = _
              rw [HV.out, ok_bad hkl hb]
            have HB := Lib.hid hb
            clear hb
            go_wp2_with fail
            refine (impl_any L[k] wr (by omega)).mono ?_
            rw [HB.out]
            rintro e w3 ⟨rfl, hl⟩
            have L3 := Lib.hid (L2.out.trans (hl.mono L2.out.size))
            clear hl hx K1 L2
            go_wp2
            go_ret
            rw [HN1.out]
            exact ⟨rfl, L3.out⟩
        · have HA : Hid (U = true) := by
            have := HK.out
            rw [List.take_of_length_le (by rw [NL.out]; omega)] at this
            exact HV.out.trans this
          go_wp2
          go_ret
          rw [HA.out]
          exact ⟨rfl, L2.out⟩
    · have h2' : ((6 : Int) < (L.length : Int)) := by omega
      have HV : Hid (U = false) := by
        show _ = _
        rw [HU.out, decide_eq_false h2]
        simp
      clear HU hll
      go_enter Tryz.func65, Tryz.ntmps65
      go_wp2_with fail
      refine (PA.out w HE.out).mono ?_
      rintro e w1 ⟨rfl, hl⟩
      have L1 := Lib.hid hl
      clear hl
      go_wp2
      go_ret
      rw [HV.out]
      exact ⟨rfl, L1.out⟩
  · have h1' : ((50 : Int) < (s.size : Int)) := by omega
    have HV : Hid (U = false) := by
      show _ = _
      rw [HU.out, decide_eq_false h1]
      simp
    clear HU
    go_enter Tryz.func65, Tryz.ntmps65
    go_wp2
    go_ret
    rw [HV.out]
    exact ⟨rfl, Below.refl _ _⟩
end Go.Proofs.YtmabbeefeipnaaaGreatDoor.NameOk
