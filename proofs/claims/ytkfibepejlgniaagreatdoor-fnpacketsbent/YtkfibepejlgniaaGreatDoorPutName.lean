/- What the program's PutName does: a new slice that holds the old bytes and what the model's PutName puts behind them. Conditions: at most 1048576 bytes in each argument; the library's variable internal/bytealg.MaxLen holds an int. -/
import Derived.Test.YtkfibepejlgniaaGreatDoorAbvImpl
import Derived.Test.YtkfibepejlgniaaGreatDoorPutSpec
namespace Go.Proofs.YtkfibepejlgniaaGreatDoor.PutName
open Go.RowKit Go.Proofs.YtkfibepejlgniaaGreatDoor.Mem Go.Proofs.YtkfibepejlgniaaGreatDoor.MemS Go.Proofs.YtkfibepejlgniaaGreatDoor.AppS Go.Proofs.YtkfibepejlgniaaGreatDoor.App Go.Proofs.YtkfibepejlgniaaGreatDoor.JoinSpec Go.Proofs.YtkfibepejlgniaaGreatDoor.Split Go.Proofs.YtkfibepejlgniaaGreatDoor.Labels Go.Proofs.YtkfibepejlgniaaGreatDoor.Label Go.Proofs.YtkfibepejlgniaaGreatDoor.PutLabel Go.Proofs.YtkfibepejlgniaaGreatDoor.NameOk Go.Proofs.YtkfibepejlgniaaGreatDoor.Plain Go.Proofs.YtkfibepejlgniaaGreatDoor.Place Go.Proofs.YtkfibepejlgniaaGreatDoor.AbvSpec Go.Proofs.YtkfibepejlgniaaGreatDoor.Put Go.Proofs.YtkfibepejlgniaaGreatDoor.PutSpec

theorem bk_head {w : World} {g i : Nat} {t : TypeId} {L : List ByteArray} {r : List Value} (h : Bk w g t (L.map tv ++ r)) (hi : i ≤ L.length) : Ss w w.heap.size (some ⟨g, 0, none⟩) i (L.take i) := by
  have e : (L.take i).map tv ++ ((L.drop i).map tv ++ r) = L.map tv ++ r := by rw [← List.append_assoc, ← List.map_append, List.take_append_drop]
  exact bk_ssw (r := (L.drop i).map tv ++ r) (by rw [e]; exact h) (by rw [List.length_take]; omega)
theorem ptr_tail (q : Int) (h0 : 0 ≤ q) (h1 : q ≤ 16383) : tail2 (49152 + q) = ptr q := if_pos (by omega)

set_option maxRecDepth 100000 in
set_option maxHeartbeats 4000000 in
theorem impl (A : Option Addr) (n c : Nat) (l : List UInt8) (s : ByteArray) (w : World) (he : Env w) (hs : Sl w w.heap.size A n l) (hnc : n ≤ c) (hnil : A = none → n = 0 ∧ c = 0) (hn : n ≤ 200000000) (hz : s.size ≤ 1048576) :
    Calls Tryz.prog 82 #[.slice A n c, .string s] w (Gives w (l ++ tailN l s)) := by
  have HS := Lib.hid hs
  have HL := Lib.hid hs.1
  have HN := Lib.hid hnil
  have HE := Lib.hid he
  have NO := Lib.hid (NameOk.impl s w he (by omega))
  have LA := Lib.hid (fun w he => Labels.impl s w he (by omega))
  have PL := Lib.hid (fun t w he hs => Place.impl A n c l t w he hs (by omega) hnc)
  have PP := Lib.hid (fun w he hs => Plain.impl A n c l s w he hs HN.out (by omega) (by omega))
  clear hs hnil he
  cases hb : Nm s with
  | false =>
    have HT : Hid (tailN l s = []) := by show _ = _; rw [tailN, hb]; rfl
    rw [hb] at NO
    clear hb
    go_enter Tryz.func82, Tryz.ntmps82
    go_wp2_with fail
    refine NO.out.mono ?_
    rintro e w1 ⟨rfl, hl⟩
    have L1 := Lib.hid hl
    clear hl
    go_wp2_with fail
    refine (appended_gives A none n c 0 0 l [] w1 ((HS.out.below L1.out).wider L1.out.size) Sl.nil HN.out (fun _ => ⟨rfl, rfl⟩) (by omega) (by omega)).mono ?_
    rintro e w2 ⟨g, m, c1, r, rfl, hm, hle, hg, hb, hl⟩
    have HM := Lib.hid hm
    have HK := Lib.hid hb
    have HG := Lib.hid hg
    have HL := Lib.hid hl
    clear hm hb hl hg
    go_wp2
    go_ret
    rw [HT.out]
    exact Gives.later ⟨g, m, c1, r, rfl, HM.out, hle, HG.out, HK.out, HL.out⟩ L1.out
  | true =>
    have AB := Lib.hid (fun w he => AbvImpl.impl s w he hb)
    have HT : Hid (tailN l s = pn l (Lab s)) := by show _ = _; rw [tailN, hb]; rfl
    have HTP : Hid (tailP s = tls (Lab s) ++ zer) := by show _ = _; rw [tailP, hb]; rfl
    obtain ⟨h50, h6, hok⟩ := nm_parts hb
    have HSH := Lib.hid (lab_short s)
    have HAG := Lib.hid (fun k h => ab_get s (Lab s).length k h)
    have HAL := Lib.hid (ab_len s (Lab s).length)
    rw [hb] at NO
    clear hb hok
    generalize ab s (Lab s).length = M at *
    generalize Lab s = L at *
    go_enter Tryz.func82, Tryz.ntmps82
    go_wp2_with fail
    refine NO.out.mono ?_
    rintro e w1 ⟨rfl, hl⟩
    have L1 := Lib.hid hl
    clear hl
    go_wp2_with fail
    refine (LA.out w1 (HE.out.below L1.out)).mono ?_
    rintro e w2 ⟨gl, nl, cl, rl, rfl, hm, hcl, hg, hk, hl⟩
    have NL := Lib.hid hm
    have hnl : nl ≤ 6 := by omega
    have K2 := Lib.hid hk
    have L2 := Lib.hid (L1.out.trans (hl.mono L1.out.size))
    clear hm hg hk hl L1
    go_wp2_with fail
    refine (AB.out w2 (HE.out.below L2.out)).mono ?_
    rintro e w3 ⟨ga, na, ca, ra, rfl, hm, hca, hg, hk, hl⟩
    have NA := Lib.hid hm
    have hna : nl + 1 = na := by have := HAL.out; have := NL.out; omega
    have KA3 := Lib.hid hk
    have K3 := Lib.hid (K2.out.below hl K2.out.lt)
    have L3 := Lib.hid (L2.out.trans (hl.mono L2.out.size))
    clear hm hg hk hl L2 K2
    subst hna
    go_wp2
    go_loopw [22] (fun i wr => ∃ k : Nat, k ≤ nl ∧ i = .int .i64 k ∧ Hid (pn l L = tls (L.take k) ++ pn l (L.drop k)) ∧ Hid (Bk wr ga 9 (M.map tv ++ ra)) ∧ Hid (Bk wr gl 9 (L.map tv ++ rl)) ∧ Hid (Below w.heap.size w wr)) (fun i _ => nl - (intOf i).toNat)
    case atStart => exact ⟨0, Nat.zero_le _, rfl, by show _ = _; rw [List.take_zero, tls_nil, List.nil_append, List.drop_zero], KA3.out, K3.out, L3.out⟩
    case round =>
      clear K3 L3 KA3
      obtain ⟨k, hk, rfl, HPN, HKA, HK, HB⟩ := hrel
      by_cases hlt : k < nl
      · have hkl : k < L.length := by rw [NL.out]; exact hlt
        have hkm : k < M.length := by rw [NA.out]; omega
        have hy : wr.cell? ⟨ga, k, none⟩ = some (.string M[k]) := by
          rw [HKA.out.cell, List.getElem?_append_left (by rw [List.length_map]; exact hkm), tv_get]
        have HMK := Lib.hid (HAG.out k hkm)
        have PK := Lib.hid (PL.out M[k] wr (HE.out.below HB.out) ((HS.out.below HB.out).wider HB.out.size))
        by_cases hq : 0 ≤ pl l M[k]
        · obtain ⟨q, hqe, _, hq2, _⟩ := pl_some hq
          have HV : Hid (pn l (L.drop k) = ptr (q : Int)) := by
            show _ = _
            rw [← hqe, HMK.out]
            exact pn_hit hkl (by rw [← HMK.out]; exact hq)
          rw [hqe] at PK
          have PT := Lib.hid (ptr_tail (q : Int) (by omega) (by omega))
          clear hqe hq
          generalize M[k] = X at *
          go_wp2_with fail
          refine PK.out.mono ?_
          rintro e w5 ⟨rfl, hl⟩
          have B5 := Lib.hid (HB.out.trans (hl.mono HB.out.size))
          have K5 := Lib.hid (HK.out.below hl HK.out.lt)
          clear hl HB HK HKA hy
          have TL : Hid ((l ++ tls (L.take k)).length ≤ 200010000) := by
            show _ ≤ _
            have h1 := tls_len (L.take k)
            rw [List.length_take] at h1
            rw [List.length_append, HL.out]
            omega
          go_wp2_with fail
          refine (putLabels A n c l (some ⟨gl, 0, none⟩) k cl (L.take k) w5 ((HS.out.below B5.out).wider B5.out.size) HN.out (bk_head K5.out (by omega)) (by omega) (by omega) (fun j h => by
            rw [List.getElem_take]
            exact Nat.le_trans (HSH.out j (by rw [List.length_take] at h; omega)) (by omega))).mono ?_
          rintro e w6 ⟨g6, m6, c6, r6, rfl, hm, hle, hg, hb, hl⟩
          have hm6 : m6 ≤ 200010000 := by have := TL.out; omega
          have M6 := Lib.hid hm
          have X6 := Lib.hid hb
          have B6 := Lib.hid (B5.out.trans (hl.mono B5.out.size))
          clear hm hg hb hl B5 K5
          go_wp2_with fail
          refine (implPut2 (some ⟨g6, 0, none⟩) m6 c6 _ (49152 + (q : Int)) w6 (M6.out ▸ (X6.out.sl'.wider X6.out.lt)) (fun h => by cases h) (by omega)).mono ?_
          rintro e w7 ⟨g7, m7, c7, r7, rfl, hm, hle7, hg, hb, hl⟩
          rw [PT.out] at hm hb
          have M7 := Lib.hid hm
          have X7 := Lib.hid hb
          have G7 := Lib.hid hg
          have HLL := Lib.hid hl
          clear hm hg hb hl
          go_wp2
          go_ret
          rw [HT.out, HPN.out, HV.out, ← List.append_assoc]
          exact Gives.later ⟨g7, m7, c7, r7, rfl, M7.out, hle7, G7.out, X7.out, HLL.out⟩ B6.out
        · have HV : Hid (pn l L = tls (L.take (k + 1)) ++ pn l (L.drop (k + 1))) := by
            show _ = _
            rw [tls_step L k hkl, HPN.out, pn_miss hkl (by rw [← HMK.out]; exact hq), List.append_assoc]
          have hqm := pl_least l M[k]
          generalize pl l M[k] = q at *
          generalize M[k] = X at *
          have hq' : ¬ (0 : Int) ≤ q := hq
          go_wp2_with fail
          refine PK.out.mono ?_
          rintro e w5 ⟨rfl, hl⟩
          have B5 := Lib.hid (HB.out.trans (hl.mono HB.out.size))
          have K5 := Lib.hid (HK.out.below hl HK.out.lt)
          have KA5 := Lib.hid (HKA.out.below hl HKA.out.lt)
          clear hl HB HK HKA hy
          go_wp2
          go_roundw
          case rel => exact ⟨k + 1, by omega, by go_num, HV.out, KA5.out, K5.out, B5.out⟩
          case measure => simp [intOf]; omega
      · have HTA : Hid (L.take k = L) := List.take_of_length_le (by rw [NL.out]; omega)
        have HTD : Hid (L.drop k = []) := List.drop_of_length_le (by rw [NL.out]; omega)
        rw [HTA.out, HTD.out] at HPN
        have HPN2 : Hid (pn l L = tls L ++ zer) := HPN.out
        clear HPN
        go_wp2_with fail
        refine (PP.out wr (HE.out.below HB.out) ((HS.out.below HB.out).wider HB.out.size)).mono ?_
        rintro e w5 ⟨g, m, c1, r, rfl, hm, hle, hg, hb, hl⟩
        have HM := Lib.hid hm
        have HKK := Lib.hid hb
        have HG := Lib.hid hg
        have HLL := Lib.hid hl
        clear hm hb hl hg
        go_wp2
        go_ret
        rw [HT.out, HPN2.out, ← HTP.out]
        exact Gives.later ⟨g, m, c1, r, rfl, HM.out, hle, HG.out, HKK.out, HLL.out⟩ HB.out
end Go.Proofs.YtkfibepejlgniaaGreatDoor.PutName
