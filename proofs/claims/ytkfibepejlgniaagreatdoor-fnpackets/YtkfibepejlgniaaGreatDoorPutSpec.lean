/- What the model's PutName does: a new slice that holds the old bytes and, where the text is a valid name, its labels up to the first suffix that has a place among the old bytes, and a pointer to it; all labels and a zero where there is none. Conditions: at most 1000000 bytes in each argument. -/
import Derived.Test.YtkfibepejlgniaaGreatDoorAbvSpec
import Derived.Test.YtkfibepejlgniaaGreatDoorPlace
import Derived.Test.YtkfibepejlgniaaGreatDoorPlain
import Derived.Test.YtkfibepejlgniaaGreatDoorPut
namespace Go.Proofs.YtkfibepejlgniaaGreatDoor.PutSpec
open Go.RowKit Go.Proofs.YtkfibepejlgniaaGreatDoor.Mem Go.Proofs.YtkfibepejlgniaaGreatDoor.MemS Go.Proofs.YtkfibepejlgniaaGreatDoor.AppS Go.Proofs.YtkfibepejlgniaaGreatDoor.App Go.Proofs.YtkfibepejlgniaaGreatDoor.JoinSpec Go.Proofs.YtkfibepejlgniaaGreatDoor.Split Go.Proofs.YtkfibepejlgniaaGreatDoor.Labels Go.Proofs.YtkfibepejlgniaaGreatDoor.Label Go.Proofs.YtkfibepejlgniaaGreatDoor.PutLabel Go.Proofs.YtkfibepejlgniaaGreatDoor.NameOk Go.Proofs.YtkfibepejlgniaaGreatDoor.Plain Go.Proofs.YtkfibepejlgniaaGreatDoor.Place Go.Proofs.YtkfibepejlgniaaGreatDoor.AbvSpec Go.Proofs.YtkfibepejlgniaaGreatDoor.Put

/-- A pointer to offset q. A def, so that no step of a walk opens it. -/
def ptr (q : Int) : List UInt8 := two (49152 + q)
theorem ptr_len (q : Int) : (ptr q).length = 2 := rfl
theorem ptr_cells (q : Int) (h0 : 0 ≤ q) (h1 : q ≤ 16383) : (ptr q).map bv = [.int .u8 (192 + q / 256), .int .u8 (q % 256)] := by
  have e1 : (49152 + q) / 256 = 192 + q / 256 := by omega
  have e2 : (49152 + q) % 256 = q % 256 := by omega
  rw [ptr, two_cells _ (by omega) (by omega), e1, e2]
/-- What stands for the labels L behind the bytes l. -/
def pn (l : List UInt8) : List ByteArray → List UInt8
  | [] => zer
  | p :: r => if 0 ≤ pl l (Jo (p :: r)) then ptr (pl l (Jo (p :: r))) else tailL p ++ pn l r
theorem pn_hit {l : List UInt8} {L : List ByteArray} {k : Nat} (h : k < L.length) (hh : 0 ≤ pl l (Jo (L.drop k))) : pn l (L.drop k) = ptr (pl l (Jo (L.drop k))) := by
  rw [List.drop_eq_getElem_cons h] at hh ⊢
  rw [pn, if_pos hh]
theorem pn_miss {l : List UInt8} {L : List ByteArray} {k : Nat} (h : k < L.length) (hh : ¬ 0 ≤ pl l (Jo (L.drop k))) : pn l (L.drop k) = tailL L[k] ++ pn l (L.drop (k + 1)) := by
  rw [List.drop_eq_getElem_cons h] at hh ⊢
  rw [pn, if_neg hh]
theorem pn_len (l : List UInt8) : ∀ L : List ByteArray, (pn l L).length ≤ 13 * L.length + 2
  | [] => by simp [pn, zer, one_len]
  | p :: r => by
    have h1 := pn_len l r
    have h2 := tailL_len p
    rw [pn]
    split
    · rw [ptr_len]
      simp
    · rw [List.length_append, List.length_cons]
      omega
/-- What PutName puts behind b. -/
def tailN (l : List UInt8) (s : ByteArray) : List UInt8 := if Nm s = true then pn l (Lab s) else []
theorem tailN_len (l : List UInt8) (s : ByteArray) : (tailN l s).length ≤ 80 := by
  unfold tailN
  split
  · rename_i h
    have h1 := (nm_parts h).2.1
    have h2 := pn_len l (Lab s)
    omega
  · simp

set_option maxRecDepth 100000 in
set_option maxHeartbeats 4000000 in
theorem spec (A : Option Addr) (n c : Nat) (l : List UInt8) (s : ByteArray) (w : World) (hs : Sl w w.heap.size A n l) (hnc : n ≤ c) (hnil : A = none → n = 0 ∧ c = 0) (hn : n ≤ 200000000) (hz : s.size ≤ 1048576) :
    Calls Tryz.prog 86 #[.slice A n c, .string s] w (GivesO w (l ++ tailN l s)) := by
  obtain ⟨i0, hi, hz0, hz1, hz2⟩ := info_parts Copy.info
  have HS := Lib.hid hs
  have HL := Lib.hid hs.1
  have HN := Lib.hid hnil
  have NO := Lib.hid (fun w => NameOk.spec s w (by omega))
  have LA := Lib.hid (fun w => Labels.spec s w (by omega))
  have AB := Lib.hid (fun w => AbvSpec.spec s w hz)
  have PL := Lib.hid (fun t w hs => Place.spec A n c l t w hs (by omega) hnc)
  clear hs hnil
  go_enter Tryz.func86, Tryz.ntmps86
  go_wp2_with (at_builtin; refine append_src rfl (.tmp 10) (.tmp 11) 22 rfl w.heap.size 5 i0 (.int .u8 0) Tryz.underlying22 hi hz0 hz1 hz2 rfl w.heap.size 0 0 [] rfl (App.owns_new w) A n c _ l rfl (sl_alloc HS.out _) HN.out ?c1 ?c2 ?c3 ?_)
  case c1 => omega
  case c2 => omega
  case c3 => simp
  intro g1 cap1 w1 hown hgrow
  have hown' : w1.ownsRow w.heap.size 5 1 (.slice (some ⟨g1, 0, none⟩) n cap1) n (l.map bv) := by simpa using hown
  have O1 := Lib.hid hown'
  have L1 := Lib.hid ((((Below.refl w.heap.size w).alloc (Nat.le_refl _) (.cells #[] 5))).grown hgrow (by simp) (fun j hj => by cases hj; exact Nat.le_refl _))
  clear hown hgrow hown'
  cases hb : Nm s with
  | false =>
    have HT : Hid (tailN l s = []) := by show _ = _; rw [tailN, hb]; rfl
    rw [hb] at NO
    clear hb
    go_wp2_with fail
    refine (NO.out w1).mono ?_
    rintro e w2 ⟨rfl, hl⟩
    have O2 := Lib.hid (O1.out.kept (row := none) ⟨hl.os, hl.tape, hl.output, hl.size, fun k hk _ => hl.block k hk⟩ (Or.inr (by simp [Value.ownBlock])))
    have L2 := Lib.hid (L1.out.trans (hl.mono L1.out.size))
    clear hl O1 L1
    go_wp2
    go_ret
    rw [HT.out, List.append_nil]
    exact givesO_of O2.out L2.out
  | true =>
    have HT : Hid (tailN l s = pn l (Lab s)) := by show _ = _; rw [tailN, hb]; rfl
    obtain ⟨h50, h6, hok⟩ := nm_parts hb
    have HSH := Lib.hid (lab_short s)
    have HAG := Lib.hid (fun k h => ab_get s (Lab s).length k h)
    have HAL := Lib.hid (ab_len s (Lab s).length)
    rw [hb] at NO
    clear hb hok
    generalize ab s (Lab s).length = M at *
    generalize Lab s = L at *
    go_wp2_with fail
    refine (NO.out w1).mono ?_
    rintro e w2 ⟨rfl, hl⟩
    have O2 := Lib.hid (O1.out.kept (row := none) ⟨hl.os, hl.tape, hl.output, hl.size, fun k hk _ => hl.block k hk⟩ (Or.inr (by simp [Value.ownBlock])))
    have L2 := Lib.hid (L1.out.trans (hl.mono L1.out.size))
    clear hl O1 L1
    go_wp2_with fail
    refine (AB.out w2).mono ?_
    rintro e w3 ⟨ga, na, ca, ra, rfl, hm, hca, hg, hk, hl⟩
    have NA := Lib.hid hm
    have KA3 := Lib.hid hk
    have O3 := Lib.hid (O2.out.kept (row := none) ⟨hl.os, hl.tape, hl.output, hl.size, fun k hk _ => hl.block k hk⟩ (Or.inr (by simp [Value.ownBlock])))
    have L3 := Lib.hid (L2.out.trans (hl.mono L2.out.size))
    clear hm hg hk hl O2 L2
    go_wp2_with fail
    refine (LA.out w3).mono ?_
    rintro e w4 ⟨gl, nl, cl, rl, rfl, hm, hcl, hg, hk, hl⟩
    have NL := Lib.hid hm
    have hnl : nl ≤ 6 := by omega
    have hna : nl + 1 = na := by have := HAL.out; have := NA.out; omega
    have K4 := Lib.hid hk
    have KA4 := Lib.hid (KA3.out.below hl KA3.out.lt)
    have O4 := Lib.hid (O3.out.kept (row := none) ⟨hl.os, hl.tape, hl.output, hl.size, fun k hk _ => hl.block k hk⟩ (Or.inr (by simp [Value.ownBlock])))
    have L4 := Lib.hid (L3.out.trans (hl.mono L3.out.size))
    clear hm hg hk hl O3 L3 KA3
    subst hna
    go_wp2
    go_loopw [5, 8] (fun v i wr => ∃ (k g m cap : Nat), k ≤ nl ∧ m ≤ n + 13 * k ∧ i = .int .i64 k ∧ v = .slice (some ⟨g, 0, none⟩) m cap ∧ Hid (pn l L = tls (L.take k) ++ pn l (L.drop k)) ∧ Hid (wr.ownsRow w.heap.size 5 1 (.slice (some ⟨g, 0, none⟩) m cap) m ((l ++ tls (L.take k)).map bv)) ∧ Hid (Bk wr ga 9 (M.map tv ++ ra)) ∧ Hid (Bk wr gl 9 (L.map tv ++ rl)) ∧ Hid (Below w.heap.size w wr)) (fun _ i _ => nl - (intOf i).toNat)
    case atStart => exact ⟨0, g1, n, cap1, Nat.zero_le _, by omega, rfl, rfl, by show _ = _; rw [List.take_zero, tls_nil, List.nil_append, List.drop_zero], by rw [List.take_zero, tls_nil, List.append_nil]; exact O4.out, KA4.out, K4.out, L4.out⟩
    case round =>
      clear O4 K4 L4 KA4
      obtain ⟨k, g, m, cap, hk, hm, rfl, rfl, HPN, HO, HKA, HK, HB⟩ := hrel
      have HM : Hid ((l ++ tls (L.take k)).length = m) := by have := HO.out.1; show _ = _; simpa using this
      by_cases hlt : k < nl
      · have hkl : k < L.length := by rw [NL.out]; exact hlt
        have hkm : k < M.length := by rw [NA.out]; omega
        have hx : wr.cell? ⟨gl, k, none⟩ = some (.string L[k]) := by
          rw [HK.out.cell, List.getElem?_append_left (by rw [List.length_map]; exact hkl), tv_get]
        have hy : wr.cell? ⟨ga, k, none⟩ = some (.string M[k]) := by
          rw [HKA.out.cell, List.getElem?_append_left (by rw [List.length_map]; exact hkm), tv_get]
        have HMK := Lib.hid (HAG.out k hkm)
        have hxs : L[k].size ≤ 1048576 := Nat.le_trans (HSH.out k hkl) hz
        have PK := Lib.hid (PL.out M[k] wr ((HS.out.below HB.out).wider HB.out.size))
        by_cases hq : 0 ≤ pl l M[k]
        · obtain ⟨q, hqe, _, hq2, _⟩ := pl_some hq
          have HV : Hid (pn l (L.drop k) = ptr (q : Int)) := by
            show _ = _
            rw [← hqe, HMK.out]
            exact pn_hit hkl (by rw [← HMK.out]; exact hq)
          rw [hqe] at PK
          have PC := Lib.hid (ptr_cells (q : Int) (by omega) (by omega))
          clear hqe hq
          generalize M[k] = X at *
          go_wp2_with fail
          refine PK.out.mono ?_
          rintro e w5 ⟨rfl, hl⟩
          have B5 := Lib.hid (HB.out.trans (hl.mono HB.out.size))
          have O5 := Lib.hid (HO.out.kept (row := none) ⟨hl.os, hl.tape, hl.output, hl.size, fun k hk _ => hl.block k hk⟩ (Or.inr (by simp [Value.ownBlock])))
          clear hl HB HO hx hy
          go_wp2_with (at_builtin; refine append_src rfl (.tmp 35) (.tmp 43) 22 rfl w.heap.size 5 i0 (.int .u8 0) Tryz.underlying22 hi hz0 hz1 hz2 rfl g m cap _ rfl (O5.out.alloc _) _ 2 2 _ (ptr (q : Int)) rfl (sl_new w5 _ (ptr (q : Int)) PC.out.symm) (fun h => by cases h) ?d1 ?d2 ?d3 ?_)
          case d1 => omega
          case d2 => omega
          case d3 => have := B5.out.size; simp; omega
          intro g6 cap6 w6 hown hgrow
          have hown' : w6.ownsRow w.heap.size 5 1 (.slice (some ⟨g6, 0, none⟩) (m + 2) cap6) (m + 2) ((l ++ tls (L.take k) ++ ptr (q : Int)).map bv) := by simpa [List.map_append, List.append_assoc] using hown
          have O6 := Lib.hid hown'
          have L6 := Lib.hid ((B5.out.alloc B5.out.size _).grown hgrow (by have := B5.out.size; simp; omega) (fun j hj => by cases hj; exact (O5.out.lt g rfl).1))
          clear hown hgrow hown'
          go_wp2
          go_ret
          rw [HT.out, HPN.out, HV.out, ← List.append_assoc]
          exact givesO_of O6.out L6.out
        · have HV : Hid (pn l L = tls (L.take (k + 1)) ++ pn l (L.drop (k + 1))) := by
            show _ = _
            rw [tls_step L k hkl, HPN.out, pn_miss hkl (by rw [← HMK.out]; exact hq), List.append_assoc]
          have hqm := pl_least l M[k]
          generalize pl l M[k] = q at *
          generalize M[k] = X at *
          have HST := Lib.hid (tls_step L k hkl)
          have hq' : ¬ (0 : Int) ≤ q := hq
          go_wp2_with fail
          refine PK.out.mono ?_
          rintro e w5 ⟨rfl, hl⟩
          have hx5 : w5.cell? ⟨gl, k, none⟩ = some (.string L[k]) := (hl.cell (p := ⟨gl, k, none⟩) HK.out.lt).trans hx
          have B5 := Lib.hid (HB.out.trans (hl.mono HB.out.size))
          have K5 := Lib.hid (HK.out.below hl HK.out.lt)
          have KA5 := Lib.hid (HKA.out.below hl HKA.out.lt)
          have O5 := Lib.hid (HO.out.kept (row := none) ⟨hl.os, hl.tape, hl.output, hl.size, fun k hk _ => hl.block k hk⟩ (Or.inr (by simp [Value.ownBlock])))
          obtain ⟨r0, hb0, hr0, _⟩ := bk_of_owns O5.out
          have SL : Hid (Sl w5 w5.heap.size (some ⟨g, 0, none⟩) m (l ++ tls (L.take k))) := HM.out ▸ (hb0.sl'.wider hb0.lt)
          clear hl HB HO HK HKA hx hy hb0 hr0
          go_wp2_with fail
          refine (specPutO (some ⟨g, 0, none⟩) m cap _ L[k] w5 SL.out (fun h => by cases h) (by omega) (by omega)).mono ?_
          rintro e w6 ⟨g4, cap4, rfl, ho4, hl⟩
          have ho5 : w6.ownsRow w.heap.size 5 1 (.slice (some ⟨g4, 0, none⟩) (l ++ tls (L.take k) ++ tailL L[k]).length cap4) (l ++ tls (L.take k) ++ tailL L[k]).length ((l ++ tls (L.take (k + 1))).map bv) := by
            rw [HST.out, ← List.append_assoc]
            exact owns_base ho4 B5.out.size
          have hm4 : (l ++ tls (L.take k) ++ tailL L[k]).length ≤ m + 13 := by rw [List.length_append, HM.out]; have := tailL_len L[k]; omega
          have K6 := Lib.hid (K5.out.below hl K5.out.lt)
          have KA6 := Lib.hid (KA5.out.below hl KA5.out.lt)
          have B6 := Lib.hid (B5.out.trans (hl.mono B5.out.size))
          generalize (l ++ tls (L.take k) ++ tailL L[k]).length = m4 at *
          have O6 := Lib.hid ho5
          clear ho4 ho5 hl O5 K5 KA5 B5 SL hx5
          go_wp2
          go_roundw
          case rel => exact ⟨k + 1, g4, m4, cap4, by omega, by omega, by go_num, rfl, HV.out, O6.out, KA6.out, K6.out, B6.out⟩
          case measure => simp [intOf]; omega
      · have HTA : Hid (L.take k = L) := List.take_of_length_le (by rw [NL.out]; omega)
        have HTD : Hid (L.drop k = []) := List.drop_of_length_le (by rw [NL.out]; omega)
        rw [HTA.out] at HO HM
        rw [HTA.out, HTD.out] at HPN
        have HPN2 : Hid (pn l L = tls L ++ zer) := HPN.out
        clear HPN
        go_wp2_with (at_builtin; refine append_src rfl (.tmp 51) (.tmp 52) 22 rfl w.heap.size 5 i0 (.int .u8 0) Tryz.underlying22 hi hz0 hz1 hz2 rfl g m cap _ rfl (HO.out.alloc _) _ 1 1 _ zer rfl (sl_new wr _ zer zer_cells) (fun h => by cases h) ?d1 ?d2 ?d3 ?_)
        case d1 => omega
        case d2 => omega
        case d3 => have := HB.out.size; simp; omega
        intro g5 cap5 w5 hown hgrow
        have hown' : w5.ownsRow w.heap.size 5 1 (.slice (some ⟨g5, 0, none⟩) (m + 1) cap5) (m + 1) ((l ++ tls L ++ zer).map bv) := by simpa [List.map_append, List.append_assoc] using hown
        have O5 := Lib.hid hown'
        have L5 := Lib.hid ((HB.out.alloc HB.out.size _).grown hgrow (by have := HB.out.size; simp; omega) (fun j hj => by cases hj; exact (HO.out.lt g rfl).1))
        clear hown hgrow hown'
        go_wp2
        go_ret
        rw [HT.out, HPN2.out, ← List.append_assoc]
        exact givesO_of O5.out L5.out
end Go.Proofs.YtkfibepejlgniaaGreatDoor.PutSpec
