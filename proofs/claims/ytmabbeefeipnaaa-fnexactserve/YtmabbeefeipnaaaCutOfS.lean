/- What CutOf and InZone do in the model. Condition: fewer than 400000001 records, no name of more than 400000000 bytes. -/
import Derived.Test.YtmabbeefeipnaaaCutsS
namespace Go.Proofs.Ytmabbeefeipnaaa.CutOfS
open Go.RowKit Go.Proofs.Ytmabbeefeipnaaa.Mem Go.Proofs.Ytmabbeefeipnaaa.MemR Go.Proofs.Ytmabbeefeipnaaa.BoxR Go.Proofs.Ytmabbeefeipnaaa.SetMath Go.Proofs.Ytmabbeefeipnaaa.NameMath Go.Proofs.Ytmabbeefeipnaaa.ZoneMath Go.Proofs.Ytmabbeefeipnaaa.MemZ Go.Proofs.Ytmabbeefeipnaaa.MemS Go.Proofs.Ytmabbeefeipnaaa.AppS

set_option maxHeartbeats 8000000 in
theorem spec (s nm : ByteArray) (b0 o0 n c : Nat) (l : List Rec) (w : World) (hs : Sr w w.heap.size (some ⟨b0, o0, none⟩) n l) (hn : n ≤ 400000000) (hm : s.size ≤ 400000000) (hq : nm.size ≤ 400000000) (hz : ∀ r ∈ l, r.name.size ≤ 400000000) :
    Calls Try.prog 36 #[.agg #[.string s, .slice (some ⟨b0, o0, none⟩) n c], .string nm] w fun e w' => e = .returned (cv (co nm (uq (cn s l)))) ∧ Below w.heap.size w w' := by
  have L0 := Lib.hid ((Below.refl w.heap.size w).alloc (Nat.le_refl _) (.cells #[.string s, .slice (some ⟨b0, o0, none⟩) n c] 32))
  have X0 := Lib.hid (zx_new w 32 s (.slice (some ⟨b0, o0, none⟩) n c))
  have CS := Lib.hid (fun W hW => CutsS.spec s b0 o0 n c l W hW hn hm hz)
  have S0 := Lib.hid (hs.on L0.out)
  have HLN : Hid ((uq (cn s l)).length ≤ 400000000) := by show _ ≤ _; have h1 := len_uq (cn s l); have h2 := cn_len s l; have := hs.1; omega
  have HZ : Hid (∀ x ∈ uq (cn s l), x.size ≤ 400000000) := fun x hx => by obtain ⟨r, hr, rfl⟩ := cn_mem (mem_uq.1 hx); exact hz r hr
  clear hs hz
  generalize uq (cn s l) = L at *
  obtain ⟨x0, x1⟩ := X0.out
  go_enter Try.func36, Try.ntmps36
  go_wp2_with fail
  refine (CS.out _ S0.out).mono ?_
  rintro e w1 ⟨g, m, cap, r', rfl, hlm, hmc, hg, hb, hl⟩
  have HM := Lib.hid hlm
  have hm' : m ≤ 400000000 := by have := HLN.out; omega
  have B1 := Lib.hid hb
  have L1 := Lib.hid (L0.out.trans (hl.mono L0.out.size))
  clear hlm hmc hg hb hl CS S0 X0 L0 x0 x1 HLN
  go_wp2
  go_loopw [7] (fun i wr => ∃ k : Nat, k ≤ m ∧ i = .int .i64 k ∧ Hid (co nm (L.take k) = none) ∧ Hid (Bk wr g 9 (L.map tv ++ r')) ∧ Hid (Below w.heap.size w wr)) (fun i _ => m - (intOf i).toNat)
  case atStart => exact ⟨0, Nat.zero_le _, rfl, rfl, B1.out, L1.out⟩
  case round =>
    clear B1 L1
    obtain ⟨k, hk, rfl, HE, HB, HL⟩ := hrel
    by_cases hlt : k < m
    · have hkl : k < L.length := by rw [HM.out]; exact hlt
      have e0 : wr.cell? ⟨g, k, none⟩ = some (.string L[k]) := by
        rw [HB.out.cell, List.getElem?_append_left (by rw [List.length_map]; exact hkl), tv_get]
      have HH := Lib.hid (fun e => co_hit nm L k hkl e HE.out)
      have HN := Lib.hid (fun e => co_next nm L k hkl e HE.out)
      have HY := Lib.hid (HZ.out _ (List.getElem_mem hkl))
      generalize L[k] = y at *
      have US := Lib.hid (fun W => Under.spec nm y W hq HY.out)
      generalize Un nm y = u at *
      go_wp2_with fail
      refine (US.out _).mono ?_
      rintro e w2 ⟨rfl, hl⟩
      have e1 : w2.cell? ⟨g, k, none⟩ = some (.string y) := (hl.cell (p := ⟨g, k, none⟩) HB.out.lt).trans e0
      have B2 := Lib.hid (HB.out.below hl HB.out.lt)
      have L2 := Lib.hid (HL.out.trans (hl.mono HL.out.size))
      clear hl US e0
      cases u with
      | true =>
        have HF := Lib.hid (HH.out rfl)
        clear HH HN
        go_wp2
        go_ret2
        exact ⟨congrArg (fun b => Ending.returned (cv b)) HF.out.symm, L2.out⟩
      | false =>
        have HF := Lib.hid (HN.out rfl)
        clear HH HN
        go_wp2
        go_roundw
        case rel => exact ⟨k + 1, by omega, by go_num, HF.out, B2.out, L2.out⟩
        case measure => simp [intOf]; omega
    · obtain rfl : m = k := by omega
      have HF : Hid (co nm L = none) := by rw [take_all HM.out] at HE; exact HE
      go_wp2
      go_ret2
      exact ⟨congrArg (fun b => Ending.returned (cv b)) HF.out.symm, HL.out⟩

/-- A name is in the zone. -/
noncomputable def iz (s nm : ByteArray) (l : List Rec) : Bool := Un nm s && !(co nm (uq (cn s l))).isSome

end Go.Proofs.Ytmabbeefeipnaaa.CutOfS
