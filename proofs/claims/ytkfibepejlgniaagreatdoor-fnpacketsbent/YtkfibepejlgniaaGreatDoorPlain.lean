/- What PutPlain does in the program and in the model: a new slice that holds the old bytes and, where the text is a valid name, its labels and a zero. Conditions: at most 1500000 bytes in each argument; for the program: the library's variable internal/bytealg.MaxLen holds an int. -/
import Derived.Test.YtkfibepejlgniaaGreatDoorPutLabel
import Derived.Test.YtkfibepejlgniaaGreatDoorNameOk
namespace Go.Proofs.YtkfibepejlgniaaGreatDoor.Plain
open Go.RowKit Go.Proofs.YtkfibepejlgniaaGreatDoor.Mem Go.Proofs.YtkfibepejlgniaaGreatDoor.MemS Go.Proofs.YtkfibepejlgniaaGreatDoor.AppS Go.Proofs.YtkfibepejlgniaaGreatDoor.App Go.Proofs.YtkfibepejlgniaaGreatDoor.Split Go.Proofs.YtkfibepejlgniaaGreatDoor.Labels Go.Proofs.YtkfibepejlgniaaGreatDoor.Label Go.Proofs.YtkfibepejlgniaaGreatDoor.PutLabel Go.Proofs.YtkfibepejlgniaaGreatDoor.NameOk

/-- The labels, one behind another. -/
def tls (L : List ByteArray) : List UInt8 := L.flatMap tailL
theorem tls_nil : tls [] = [] := rfl
theorem tls_cons (x : ByteArray) (L : List ByteArray) : tls (x :: L) = tailL x ++ tls L := rfl
theorem tls_append (L M : List ByteArray) : tls (L ++ M) = tls L ++ tls M := by simp [tls]
theorem tls_len : ∀ L : List ByteArray, (tls L).length ≤ 13 * L.length
  | [] => by simp [tls]
  | x :: L => by
    have := tls_len L
    have := tailL_len x
    rw [tls_cons, List.length_append, List.length_cons]
    omega
theorem tls_step (L : List ByteArray) (k : Nat) (h : k < L.length) : tls (L.take (k + 1)) = tls (L.take k) ++ tailL L[k] := by
  rw [List.take_succ_eq_append_getElem h, tls_append]
  simp [tls]
/-- A zero byte. Defs, so that no step of a walk opens them. -/
def zer : List UInt8 := one 0
theorem zer_cells : (#[Value.int .u8 0] : Array Value).toList = zer.map bv := one_cells 0 (by omega)
/-- What PutPlain puts behind b. -/
def tailP (s : ByteArray) : List UInt8 := if Nm s = true then tls (Lab s) ++ zer else []
theorem nm_parts {s : ByteArray} (h : Nm s = true) : s.size ≤ 50 ∧ (Lab s).length ≤ 6 ∧ okL (Lab s) = true := by
  rw [Nm, Bool.and_eq_true, Bool.and_eq_true] at h
  exact ⟨of_decide_eq_true h.1.2, of_decide_eq_true h.2, h.1.1⟩
theorem tailP_len (s : ByteArray) : (tailP s).length ≤ 79 := by
  unfold tailP
  split
  · rename_i h
    have h1 := (nm_parts h).2.1
    have h2 := tls_len (Lab s)
    rw [List.length_append, zer, one_len]
    omega
  · simp

set_option maxRecDepth 100000 in
set_option maxHeartbeats 4000000 in
theorem spec (A : Option Addr) (n c : Nat) (l : List UInt8) (s : ByteArray) (w : World) (hs : Sl w w.heap.size A n l) (hnil : A = none → n = 0 ∧ c = 0) (hn : n ≤ 300000000) (hz : s.size ≤ 300000000) :
    Calls Tryz.prog 188 #[.slice A n c, .string s] w (GivesO w (l ++ tailP s)) := by
  obtain ⟨i0, hi, hz0, hz1, hz2⟩ := info_parts Copy.info
  have HS := Lib.hid hs
  have HL := Lib.hid hs.1
  have HN := Lib.hid hnil
  have NO := Lib.hid (fun w => NameOk.spec s w (by omega))
  have LA := Lib.hid (fun w => Labels.spec s w (by omega))
  clear hs hnil
  go_enter Tryz.func188, Tryz.ntmps188
  go_wp2_with (at_builtin; refine append_src rfl (.tmp 8) (.tmp 9) 22 rfl w.heap.size 5 i0 (.int .u8 0) Tryz.underlying22 hi hz0 hz1 hz2 rfl w.heap.size 0 0 [] rfl (App.owns_new w) A n c _ l rfl (sl_alloc HS.out _) HN.out ?c1 ?c2 ?c3 ?_)
  case c1 => omega
  case c2 => omega
  case c3 => simp
  intro g1 cap1 w1 hown hgrow
  have hown' : w1.ownsRow w.heap.size 5 1 (.slice (some ⟨g1, 0, none⟩) n cap1) n (l.map bv) := by simpa using hown
  have O1 := Lib.hid hown'
  have L1 := Lib.hid ((((Below.refl w.heap.size w).alloc (Nat.le_refl _) (.cells #[] 5))).grown hgrow (by simp) (fun j hj => by cases hj; exact Nat.le_refl _))
  clear hown hgrow hown'
  cases hb : Nm s with
  | false =>
    have HT : Hid (tailP s = []) := by show _ = _; rw [tailP, hb]; rfl
    rw [hb] at NO
    clear hb
    go_wp2_with fail
    refine (NO.out w1).mono ?_
    rintro e w2 ⟨rfl, hl⟩
    have O2 := Lib.hid (O1.out.kept (row := none) ⟨hl.os, hl.tape, hl.output, hl.size, fun k hk _ => hl.block k hk⟩ (Or.inr (by simp [Value.ownBlock])))
    have L2 := Lib.hid (L1.out.trans (hl.mono L1.out.size))
    clear hl O1 L1
    go_wp2
    go_ret
    rw [HT.out, List.append_nil]
    exact givesO_of O2.out L2.out
  | true =>
    have HT : Hid (tailP s = tls (Lab s) ++ zer) := by show _ = _; rw [tailP, hb]; rfl
    obtain ⟨h50, h6, hok⟩ := nm_parts hb
    have HSH := Lib.hid (lab_short s)
    rw [hb] at NO
    clear hb hok
    generalize Lab s = L at *
    go_wp2_with fail
    refine (NO.out w1).mono ?_
    rintro e w2 ⟨rfl, hl⟩
    have O2 := Lib.hid (O1.out.kept (row := none) ⟨hl.os, hl.tape, hl.output, hl.size, fun k hk _ => hl.block k hk⟩ (Or.inr (by simp [Value.ownBlock])))
    have L2 := Lib.hid (L1.out.trans (hl.mono L1.out.size))
    clear hl O1 L1
    go_wp2_with fail
    refine (LA.out w2).mono ?_
    rintro e w3 ⟨gl, nl, cl, rl, rfl, hm, hcl, hg, hk, hl⟩
    have NL := Lib.hid hm
    have hnl : nl ≤ 6 := by omega
    have K3 := Lib.hid hk
    have O3 := Lib.hid (O2.out.kept (row := none) ⟨hl.os, hl.tape, hl.output, hl.size, fun k hk _ => hl.block k hk⟩ (Or.inr (by simp [Value.ownBlock])))
    have L3 := Lib.hid (L2.out.trans (hl.mono L2.out.size))
    clear hm hg hk hl O2 L2
    go_wp2
    go_loopw [5, 7] (fun v i wr => ∃ (k g m cap : Nat), k ≤ nl ∧ m ≤ n + 13 * k ∧ i = .int .i64 k ∧ v = .slice (some ⟨g, 0, none⟩) m cap ∧ Hid (wr.ownsRow w.heap.size 5 1 (.slice (some ⟨g, 0, none⟩) m cap) m ((l ++ tls (L.take k)).map bv)) ∧ Hid (Bk wr gl 9 (L.map tv ++ rl)) ∧ Hid (Below w.heap.size w wr)) (fun _ i _ => nl - (intOf i).toNat)
    case atStart => exact ⟨0, g1, n, cap1, Nat.zero_le _, by omega, rfl, rfl, by rw [List.take_zero, tls_nil, List.append_nil]; exact O3.out, K3.out, L3.out⟩
    case round =>
      clear O3 K3 L3
      obtain ⟨k, g, m, cap, hk, hm, rfl, rfl, HO, HK, HB⟩ := hrel
      have HM : Hid ((l ++ tls (L.take k)).length = m) := by have := HO.out.1; show _ = _; simpa using this
      by_cases hlt : k < nl
      · have hkl : k < L.length := by rw [NL.out]; exact hlt
        have hx : wr.cell? ⟨gl, k, none⟩ = some (.string L[k]) := by
          rw [HK.out.cell, List.getElem?_append_left (by rw [List.length_map]; exact hkl), tv_get]
        have hxs : L[k].size ≤ 300000000 := Nat.le_trans (HSH.out k hkl) hz
        have HST := Lib.hid (tls_step L k hkl)
        obtain ⟨r0, hb0, hr0, _⟩ := bk_of_owns HO.out
        have SL : Hid (Sl wr wr.heap.size (some ⟨g, 0, none⟩) m (l ++ tls (L.take k))) := HM.out ▸ (hb0.sl'.wider hb0.lt)
        have hmc : m ≤ cap := by rw [← hr0, List.length_append, List.length_map, HM.out]; omega
        clear hb0 hr0
        go_wp2_with fail
        refine (specPutO (some ⟨g, 0, none⟩) m cap _ L[k] wr SL.out (fun h => by cases h) (by omega) (by omega)).mono ?_
        rintro e w4 ⟨g4, cap4, rfl, ho4, hl⟩
        have ho5 : w4.ownsRow w.heap.size 5 1 (.slice (some ⟨g4, 0, none⟩) (l ++ tls (L.take k) ++ tailL L[k]).length cap4) (l ++ tls (L.take k) ++ tailL L[k]).length ((l ++ tls (L.take (k + 1))).map bv) := by
          rw [HST.out, ← List.append_assoc]
          exact owns_base ho4 HB.out.size
        have hm4 : (l ++ tls (L.take k) ++ tailL L[k]).length ≤ m + 13 := by rw [List.length_append, HM.out]; have := tailL_len L[k]; omega
        have K4 := Lib.hid (HK.out.below hl HK.out.lt)
        have B4 := Lib.hid (HB.out.trans (hl.mono HB.out.size))
        generalize (l ++ tls (L.take k) ++ tailL L[k]).length = m4 at *
        have O4 := Lib.hid ho5
        clear ho4 ho5 hl HO HK HB SL hx
        go_wp2
        go_roundw
        case rel => exact ⟨k + 1, g4, m4, cap4, by omega, by omega, by go_num, rfl, O4.out, K4.out, B4.out⟩
        case measure => simp [intOf]; omega
      · have HTA : Hid (L.take k = L) := List.take_of_length_le (by rw [NL.out]; omega)
        rw [HTA.out] at HO HM
        go_wp2_with (at_builtin; refine append_src rfl (.tmp 29) (.tmp 30) 22 rfl w.heap.size 5 i0 (.int .u8 0) Tryz.underlying22 hi hz0 hz1 hz2 rfl g m cap _ rfl (HO.out.alloc _) _ 1 1 _ zer rfl (sl_new wr _ zer zer_cells) (fun h => by cases h) ?d1 ?d2 ?d3 ?_)
        case d1 => omega
        case d2 => omega
        case d3 => have := HB.out.size; simp; omega
        intro g5 cap5 w5 hown hgrow
        have hown' : w5.ownsRow w.heap.size 5 1 (.slice (some ⟨g5, 0, none⟩) (m + 1) cap5) (m + 1) ((l ++ tls L ++ zer).map bv) := by simpa [List.map_append, List.append_assoc] using hown
        have O5 := Lib.hid hown'
        clear hown'
        have L5 := Lib.hid ((HB.out.alloc HB.out.size _).grown hgrow (by have := HB.out.size; simp; omega) (fun j hj => by cases hj; exact (HO.out.lt g rfl).1))
        clear hown hgrow
        go_wp2
        go_ret
        rw [HT.out, ← List.append_assoc]
        exact givesO_of O5.out L5.out

set_option maxHeartbeats 4000000 in
theorem putLabels (A : Option Addr) (n c : Nat) (l : List UInt8) (A' : Option Addr) (nl cl : Nat) (L : List ByteArray) (w : World) (hs : Sl w w.heap.size A n l) (hnil : A = none → n = 0 ∧ c = 0) (hL : Ss w w.heap.size A' nl L) (hn : n ≤ 300000000) (hl6 : nl ≤ 6) (hsh : ∀ k (h : k < L.length), L[k].size ≤ 300000000) :
    Calls Tryz.prog 133 #[.slice A n c, .slice A' nl cl] w (Gives w (l ++ tls L)) := by
  have HS := Lib.hid hs
  have HN := Lib.hid hnil
  have HL := Lib.hid hL
  have NL := Lib.hid hL.1
  have HSH := Lib.hid hsh
  clear hs hnil hL hsh
  go_enter Tryz.func133, Tryz.ntmps133
  go_wp2_with fail
  refine (appended_gives A none n c 0 0 l [] w HS.out Sl.nil HN.out (fun _ => ⟨rfl, rfl⟩) (by omega) (by omega)).mono ?_
  rintro e w1 ⟨g1, m1, c1, r1, rfl, hm, hle, hg, hb, hl⟩
  rw [List.append_nil] at hm hb
  have M1 := Lib.hid hm
  have hm1 : m1 ≤ n := by have := HS.out.1; omega
  have B1 := Lib.hid hb
  have G1 := Lib.hid hg
  have L1 := Lib.hid hl
  clear hm hb hl hg
  go_wp2
  go_loopw [5, 12] (fun v i wr => ∃ (k g m cap : Nat) (r : List Value), k ≤ nl ∧ m ≤ n + 13 * k ∧ m ≤ cap ∧ i = .int .i64 k ∧ v = .slice (some ⟨g, 0, none⟩) m cap ∧ Hid ((l ++ tls (L.take k)).length = m) ∧ Hid (w.heap.size ≤ g) ∧ Hid (Bk wr g 5 ((l ++ tls (L.take k)).map bv ++ r)) ∧ Hid (Below w.heap.size w wr)) (fun _ i _ => nl - (intOf i).toNat)
  case atStart => exact ⟨0, g1, m1, c1, r1, Nat.zero_le _, by omega, hle, rfl, rfl, by show _ = _; rw [List.take_zero, tls_nil, List.append_nil]; exact M1.out, G1.out, by rw [List.take_zero, tls_nil, List.append_nil]; exact B1.out, L1.out⟩
  case round =>
    clear M1 G1 B1 L1 hle hm1
    obtain ⟨k, g, m, cap, r, hk, hm, hmc, rfl, rfl, HM, HG, HK, HB⟩ := hrel
    by_cases hlt : k < nl
    · have hkl : k < L.length := by rw [NL.out]; exact hlt
      obtain ⟨b, off, rfl, hbB, hcs⟩ := HL.out.2 (by omega)
      have hx : wr.cell? ⟨b, off + k, none⟩ = some (.string L[k]) := (HB.out.cell (p := ⟨b, off + k, none⟩) hbB).trans (hcs k hkl)
      have hxs : L[k].size ≤ 300000000 := HSH.out k hkl
      have HST := Lib.hid (tls_step L k hkl)
      have SL : Hid (Sl wr wr.heap.size (some ⟨g, 0, none⟩) m (l ++ tls (L.take k))) := HM.out ▸ (HK.out.sl'.wider HK.out.lt)
      clear hcs
      go_wp2_with fail
      refine (implPut (some ⟨g, 0, none⟩) m cap _ L[k] wr SL.out (fun h => by cases h) (by omega) (by omega)).mono ?_
      rintro e w4 ⟨g4, m4, cap4, r4, rfl, hm4, hle4, hg4, hb4, hl⟩
      rw [List.append_assoc, ← HST.out] at hm4 hb4
      have hm5 : m4 ≤ m + 13 := by
        rw [← hm4, HST.out, ← List.append_assoc, List.length_append, HM.out]
        have := tailL_len L[k]
        omega
      have M4 := Lib.hid hm4
      have G4 := Lib.hid (Nat.le_trans HB.out.size hg4)
      have K4 := Lib.hid hb4
      have B4 := Lib.hid (HB.out.trans (hl.mono HB.out.size))
      clear hm4 hg4 hb4 hl HM HG HK HB SL hx
      go_wp2
      go_roundw
      case rel => exact ⟨k + 1, g4, m4, cap4, r4, by omega, by omega, hle4, by go_num, rfl, M4.out, G4.out, K4.out, B4.out⟩
      case measure => simp [intOf]; omega
    · have HTA : Hid (L.take k = L) := List.take_of_length_le (by rw [NL.out]; omega)
      rw [HTA.out] at HM HK
      go_wp2
      go_ret
      exact ⟨g, m, cap, r, rfl, HM.out, hmc, HG.out, HK.out, HB.out⟩

set_option maxHeartbeats 2000000 in
theorem impl (A : Option Addr) (n c : Nat) (l : List UInt8) (s : ByteArray) (w : World) (he : Env w) (hs : Sl w w.heap.size A n l) (hnil : A = none → n = 0 ∧ c = 0) (hn : n ≤ 300000000) (hz : s.size ≤ 300000000) :
    Calls Tryz.prog 134 #[.slice A n c, .string s] w (Gives w (l ++ tailP s)) := by
  have HS := Lib.hid hs
  have HN := Lib.hid hnil
  have HE := Lib.hid he
  have NO := Lib.hid (NameOk.impl s w he (by omega))
  have LA := Lib.hid (fun w he => Labels.impl s w he (by omega))
  clear hs hnil he
  cases hb : Nm s with
  | false =>
    have HT : Hid (tailP s = []) := by show _ = _; rw [tailP, hb]; rfl
    rw [hb] at NO
    clear hb
    go_enter Tryz.func134, Tryz.ntmps134
    go_wp2_with fail
    refine NO.out.mono ?_
    rintro e w1 ⟨rfl, hl⟩
    have L1 := Lib.hid hl
    clear hl
    go_wp2_with fail
    refine (appended_gives A none n c 0 0 l [] w1 ((HS.out.below L1.out).wider L1.out.size) Sl.nil HN.out (fun _ => ⟨rfl, rfl⟩) (by omega) (by omega)).mono ?_
    rintro e w2 ⟨g, m, c1, r, rfl, hm, hle, hg, hb, hl⟩
    have HM := Lib.hid hm
    have HK := Lib.hid hb
    have HG := Lib.hid hg
    have HL := Lib.hid hl
    clear hm hb hl hg
    go_wp2
    go_ret
    rw [HT.out]
    exact Gives.later ⟨g, m, c1, r, rfl, HM.out, hle, HG.out, HK.out, HL.out⟩ L1.out
  | true =>
    have HT : Hid (tailP s = tls (Lab s) ++ zer) := by show _ = _; rw [tailP, hb]; rfl
    obtain ⟨h50, h6, hok⟩ := nm_parts hb
    have HSH : Hid (∀ k (h : k < (Lab s).length), (Lab s)[k].size ≤ 300000000) := fun k h => Nat.le_trans (lab_short s k h) hz
    have HTL := Lib.hid (tls_len (Lab s))
    rw [hb] at NO
    clear hb hok
    generalize Lab s = L at *
    go_enter Tryz.func134, Tryz.ntmps134
    go_wp2_with fail
    refine NO.out.mono ?_
    rintro e w1 ⟨rfl, hl⟩
    have L1 := Lib.hid hl
    clear hl
    go_wp2_with fail
    refine (LA.out w1 (HE.out.below L1.out)).mono ?_
    rintro e w2 ⟨gl, nl, cl, rl, rfl, hm, hcl, hg, hk, hl⟩
    have NL := Lib.hid hm
    have hnl : nl ≤ 6 := by omega
    have K2 := Lib.hid (bk_ssw hk hm)
    have L2 := Lib.hid (L1.out.trans (hl.mono L1.out.size))
    clear hm hg hk hl L1
    go_wp2_with fail
    refine (putLabels A n c l (some ⟨gl, 0, none⟩) nl cl L w2 ((HS.out.below L2.out).wider L2.out.size) HN.out K2.out hn hnl HSH.out).mono ?_
    rintro e w3 ⟨g3, m3, c3, r3, rfl, hm, hle, hg, hb, hl⟩
    have M3 := Lib.hid hm
    have hm3 : m3 ≤ 310000000 := by
      rw [← hm, List.length_append, HS.out.1]
      have := HTL.out
      omega
    have B3 := Lib.hid hb
    have L3 := Lib.hid (L2.out.trans (hl.mono L2.out.size))
    clear hm hg hb hl L2
    go_wp2_with fail
    refine (appended_gives (some ⟨g3, 0, none⟩) _ m3 c3 1 1 _ zer _ (sl_alloc (M3.out ▸ (B3.out.sl'.wider B3.out.lt)) _) (sl_new w3 _ zer zer_cells) (fun h => by cases h) (fun h => by cases h) (by omega) (by omega)).mono ?_
    rintro e w4 ⟨g, m, c1, r, rfl, hm, hle, hg, hb, hl⟩
    have HM := Lib.hid hm
    have HK := Lib.hid hb
    have HG := Lib.hid hg
    have HL := Lib.hid hl
    clear hm hb hl hg
    go_wp2
    go_ret
    rw [HT.out, ← List.append_assoc]
    exact Gives.later ⟨g, m, c1, r, rfl, HM.out, hle, HG.out, HK.out, HL.out⟩ (L3.out.alloc L3.out.size _)
end Go.Proofs.YtkfibepejlgniaaGreatDoor.Plain
