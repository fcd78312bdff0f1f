/- The law FnJoins returns true on every slice that reads as bytes, where the library's variable internal/bytealg.MaxLen holds an int, and turns nothing that was there. -/
import Derived.Test.YtnjdgdpkodpoiaaDoorSame
import Derived.Test.YtnjdgdpkodpoiaaDoorSameS
import Derived.Test.YtnjdgdpkodpoiaaDoorLabels
import Derived.Test.YtnjdgdpkodpoiaaDoorJoin
import Derived.Test.YtnjdgdpkodpoiaaDoorJoinLab
import Derived.Test.YtnjdgdpkodpoiaaDoorDrawJ
namespace Go.Proofs.YtnjdgdpkodpoiaaDoor.LawJoins
open Go.RowKit Go.Proofs.YtnjdgdpkodpoiaaDoor.Mem Go.Proofs.YtnjdgdpkodpoiaaDoor.MemS Go.Proofs.YtnjdgdpkodpoiaaDoor.AppS Go.Proofs.YtnjdgdpkodpoiaaDoor.Same Go.Proofs.YtnjdgdpkodpoiaaDoor.SameS Go.Proofs.YtnjdgdpkodpoiaaDoor.JoinSpec Go.Proofs.YtnjdgdpkodpoiaaDoor.Split Go.Proofs.YtnjdgdpkodpoiaaDoor.Labels Go.Proofs.YtnjdgdpkodpoiaaDoor.Label Go.Proofs.YtnjdgdpkodpoiaaDoor.JoinLab Go.Proofs.YtnjdgdpkodpoiaaDoor.DrawL Go.Proofs.YtnjdgdpkodpoiaaDoor.DrawJ

theorem join_ge : ∀ (X : List (List UInt8)) (y : List UInt8), y ∈ X → y.length ≤ (Lib.join X [46]).length := by
  intro X y h
  induction X with
  | nil => simp at h
  | cons a r ih =>
    cases r with
    | nil => rw [List.mem_singleton.1 h, Lib.join_one]; omega
    | cons b r =>
      rw [join_more a (b :: r) (by simp), List.length_append, List.length_cons]
      rcases List.mem_cons.1 h with h | h
      · rw [h]; omega
      · have := ih h; omega
/-- The pieces of a short text are few and short. -/
theorem lab_sum (s : ByteArray) (h : s.size ≤ 20) : (Lab s).length + ((Lab s).map (·.size)).sum ≤ 4000000 := by
  have h1 := lab_len s
  have h2 : ∀ x ∈ Lab s, x.size ≤ 20 := by
    intro x hx
    have e := congrArg List.length (congrArg (fun y : ByteArray => y.data.toList) (jo_lab s))
    have hz : s.data.toList.length = s.size := by simp
    obtain ⟨i, hi, rfl⟩ := List.getElem_of_mem hx
    have hp : (Lab s)[i].size ≤ (jo (Lab s)).length := by
      rw [jo]
      have hm : (Lab s)[i].data.toList ∈ (Lab s).map (·.data.toList) := List.mem_map.2 ⟨_, List.getElem_mem hi, rfl⟩
      have hl : (Lab s)[i].data.toList.length = (Lab s)[i].size := by simp
      rw [← hl]
      exact join_ge _ _ hm
    rw [Jo_list] at e
    omega
  have h3 := jo_short (Lab s) 20 h2
  have h4 : (Lab s).length * 20 ≤ 21 * 20 := Nat.mul_le_mul_right 20 (by omega)
  omega
theorem few_sum (L : List ByteArray) (m : Nat) (hm : L.length = m) (h4 : m ≤ 4) (h : ∀ x ∈ L, Short x) : L.length + (L.map (·.size)).sum ≤ 84 := by
  have h1 := jo_short L 20 h
  have h2 : L.length * 20 ≤ 4 * 20 := Nat.mul_le_mul_right 20 (by omega)
  omega

set_option maxHeartbeats 4000000 in
set_option maxRecDepth 100000 in
theorem walk (A : Option Addr) (n c : Nat) (l : List UInt8) (w : World) (hs : Sl w w.heap.size A n l) (he : Env w) :
    Calls Tryd.prog 3 #[.slice A n c] w fun e w' => e = .returned (.bool true) ∧ Below w.heap.size w w' := by
  have HS := Lib.hid hs
  have HE := Lib.hid he
  clear hs he
  by_cases hn : n ≤ 1048576
  · go_enter Tryd.func3, Tryd.ntmps3
    go_wp2_with fail
    refine (big_no A n c w hn).mono ?_
    rintro e w0 ⟨rfl, rfl⟩
    go_wp2_with fail
    refine (drawLabels_any A n c l w HS.out hn).mono ?_
    rintro e w1 ⟨s, rfl, hsh, hl⟩
    have hs20 : s.size ≤ 20 := hsh
    have L1 := Lib.hid hl
    clear hsh hl
    go_wp2_with fail
    refine (drawJoinLabels_any A n c l w1 ((HS.out.below L1.out).wider L1.out.size) hn).mono ?_
    rintro e w2 ⟨gl, m, cl, rl, L, rfl, hm, hcl, hm4, hsh, hg, hb, hl⟩
    have ML := Lib.hid hm
    have SL := Lib.hid (few_sum L m hm hm4 hsh)
    have SH : Hid (∀ x ∈ L, x.size ≤ 20) := hsh
    have B2 := Lib.hid hb
    have L2 := Lib.hid (L1.out.trans (hl.mono L1.out.size))
    clear hm hsh hg hb hl L1
    go_wp2_with fail
    refine (Labels.impl s w2 (HE.out.below L2.out) (by omega)).mono ?_
    rintro e w3 ⟨gp, np, cp, rp, rfl, hm, hcp, hg, hb, hl⟩
    have hnp : np ≤ 21 := by have := lab_len s; omega
    have MP := Lib.hid hm
    have P3 := Lib.hid hb
    have B3 := Lib.hid (B2.out.below hl B2.out.lt)
    have L3 := Lib.hid (L2.out.trans (hl.mono L2.out.size))
    clear hm hg hb hl B2 L2
    go_wp2_with fail
    refine (Labels.spec s w3 (by omega)).mono ?_
    rintro e w4 ⟨gq, nq, cq, rq, rfl, hm, hcq, hg, hb, hl⟩
    obtain rfl : np = nq := by have := MP.out; omega
    have Q4 := Lib.hid hb
    have P4 := Lib.hid (P3.out.below hl P3.out.lt)
    have B4 := Lib.hid (B3.out.below hl B3.out.lt)
    have L4 := Lib.hid (L3.out.trans (hl.mono L3.out.size))
    clear hm hg hb hl B3 P3 L3
    go_wp2_with fail
    refine (sameStrs_same _ _ np cp cq (Lab s) w4 w4.heap.size (bk_ssw P4.out MP.out) (bk_ssw Q4.out MP.out) (by omega)).mono ?_
    rintro e w5 ⟨rfl, hl⟩
    have P5 := Lib.hid (P4.out.below hl P4.out.lt)
    have B5 := Lib.hid (B4.out.below hl B4.out.lt)
    have L5 := Lib.hid (L4.out.trans (hl.mono L4.out.size))
    clear hl B4 P4 Q4 L4
    go_wp2_with fail
    refine (Join.impl _ m cl L w5 (bk_ssw B5.out ML.out) hcl (by have := SL.out; omega)).mono ?_
    rintro e w6 ⟨rfl, hl⟩
    have P6 := Lib.hid (P5.out.below hl P5.out.lt)
    have B6 := Lib.hid (B5.out.below hl B5.out.lt)
    have L6 := Lib.hid (L5.out.trans (hl.mono L5.out.size))
    clear hl B5 P5 L5
    go_wp2_with fail
    refine (JoinSpec.any _ m cl L w6 _ (bk_ssw B6.out ML.out) (by have := SL.out; omega)).mono ?_
    rintro e w7 ⟨rfl, rfl⟩
    have q1 : ((Jo L).data.toList == (Jo L).data.toList) = true := by simp
    go_wp2_with fail
    refine (Join.impl _ np cp (Lab s) w6 (bk_ssw P6.out MP.out) hcp (lab_sum s hs20)).mono ?_
    rw [jo_lab]
    rintro e w8 ⟨rfl, hl⟩
    have B8 := Lib.hid (B6.out.below hl B6.out.lt)
    have L8 := Lib.hid (L6.out.trans (hl.mono L6.out.size))
    clear hl B6 P6 L6
    have q2 : (s.data.toList == s.data.toList) = true := by simp
    go_wp2
    clear q1 q2
    go_loopw [6] (fun i wr => ∃ k : Nat, k ≤ m ∧ i = .int .i64 k ∧ Hid (∀ j (h : j < L.length), j < k → lok L[j].data.toList = true) ∧ Hid (Bk wr gl 9 (L.map tv ++ rl)) ∧ Hid (Below w.heap.size w wr)) (fun i _ => m - (intOf i).toNat)
    case atStart => exact ⟨0, Nat.zero_le _, rfl, fun j _ h => by omega, B8.out, L8.out⟩
    case round =>
      clear B8 L8
      obtain ⟨k, hk, rfl, HK, BR, LR⟩ := hrel
      by_cases hlt : k < m
      · have hkl : k < L.length := by rw [ML.out]; exact hlt
        have hx : wr.cell? ⟨gl, k, none⟩ = some (.string L[k]) := by
          rw [BR.out.cell, List.getElem?_append_left (by rw [List.length_map]; exact hkl), tv_get L k hkl]
        have hsz := SH.out L[k] (List.getElem_mem hkl)
        cases hb : lok L[k].data.toList
        · have HB := Lib.hid hb
          clear hb
          go_wp2_with fail
          refine (Label.impl_any L[k] wr (by omega)).mono ?_
          rw [HB.out]
          rintro e w9 ⟨rfl, hl⟩
          have L9 := Lib.hid (LR.out.trans (hl.mono LR.out.size))
          clear hl
          go_wp2
          go_ret
          exact ⟨rfl, L9.out⟩
        · have HB := Lib.hid hb
          clear hb
          go_wp2_with fail
          refine (Label.impl_any L[k] wr (by omega)).mono ?_
          rw [HB.out]
          rintro e w9 ⟨rfl, hl⟩
          have B9 := Lib.hid (BR.out.below hl BR.out.lt)
          have L9 := Lib.hid (LR.out.trans (hl.mono LR.out.size))
          clear hl
          go_wp2
          go_roundw
          case rel =>
            refine ⟨k + 1, by omega, by go_num, fun j hj hjk => ?_, B9.out, L9.out⟩
            by_cases e : j = k
            · subst e; exact HB.out
            · exact HK.out j hj (by omega)
          case measure => simp [intOf]; omega
      · have HJ : Hid (Lab (Jo L) = L) := lab_jo L (fun x hx => by
          obtain ⟨i, hi, rfl⟩ := List.getElem_of_mem hx
          exact HK.out i hi (by rw [ML.out] at hi; omega))
        have hjs : (Jo L).size ≤ 84 := by
          have h1 := jo_size L L.length (Nat.le_refl _)
          rw [List.take_length] at h1
          have h2 := SL.out
          rw [Jo_size]
          omega
        go_wp2_with fail
        refine (Join.impl _ m cl L wr (bk_ssw BR.out ML.out) hcl (by have := SL.out; omega)).mono ?_
        rintro e w9 ⟨rfl, hl⟩
        have B9 := Lib.hid (BR.out.below hl BR.out.lt)
        have L9 := Lib.hid (LR.out.trans (hl.mono LR.out.size))
        clear hl BR LR
        go_wp2_with fail
        refine (Labels.impl (Jo L) w9 (HE.out.below L9.out) (by omega)).mono ?_
        rw [HJ.out]
        rintro e w10 ⟨gt, nt, ct, rt, rfl, hm, hct, hg, hb, hl⟩
        obtain rfl : m = nt := by have := ML.out; omega
        have T10 := Lib.hid hb
        have B10 := Lib.hid (B9.out.below hl B9.out.lt)
        have L10 := Lib.hid (L9.out.trans (hl.mono L9.out.size))
        clear hm hg hb hl B9 L9
        go_wp2_with fail
        refine (sameStrs_same _ _ m ct cl L w10 w10.heap.size (bk_ssw T10.out ML.out) (bk_ssw B10.out ML.out) (by omega)).mono ?_
        rintro e w11 ⟨rfl, hl⟩
        have L11 := Lib.hid (L10.out.trans (hl.mono L10.out.size))
        clear hl
        go_wp2
        go_ret
        exact ⟨rfl, L11.out⟩
  · go_enter Tryd.func3, Tryd.ntmps3
    go_wp2_with fail
    refine (big_yes A n c w hn).mono ?_
    rintro e w0 ⟨rfl, rfl⟩
    go_wp2
    go_ret
    exact ⟨rfl, Below.refl _ _⟩
end Go.Proofs.YtnjdgdpkodpoiaaDoor.LawJoins
