/- What ZoneOk does in the model. Condition: fewer than 400000001 records, of at most 400000000 bytes a text. -/
import Derived.Test.YtkpcanigdppegaaDoorZonesBentP4
import Derived.Test.YtkpcanigdppegaaDoorZokMath
import Derived.Test.YtkpcanigdppegaaDoorZonesBentP3
import Derived.Test.YtkpcanigdppegaaDoorNameOk
import Derived.Test.YtkpcanigdppegaaDoorZonesBentP2
import Derived.Test.YtkpcanigdppegaaDoorZonesBentP1
import Derived.Test.YtkpcanigdppegaaDoorZoneMath
import Derived.Test.YtkpcanigdppegaaDoorMemZ
import Derived.IntWalk
import Derived.Test.YtkpcanigdppegaaDoorNameSpec
/- What CutOf does in the program (a range over the cuts). Condition: fewer than 400000001 records, no name of more than 400000000 bytes. -/
namespace Go.Proofs.YtkpcanigdppegaaDoor.CutOfI
open Go.RowKit Go.Proofs.YtkpcanigdppegaaDoor.Mem Go.Proofs.YtkpcanigdppegaaDoor.MemR Go.Proofs.YtkpcanigdppegaaDoor.SetMath Go.Proofs.YtkpcanigdppegaaDoor.NameMath Go.Proofs.YtkpcanigdppegaaDoor.ZoneMath Go.Proofs.YtkpcanigdppegaaDoor.MemZ Go.Proofs.YtkpcanigdppegaaDoor.MemS Go.Proofs.YtkpcanigdppegaaDoor.AppS

set_option maxHeartbeats 8000000 in
theorem impl (s nm : ByteArray) (b0 o0 n c : Nat) (l : List Rec) (w : World) (hs : Sr w w.heap.size (some ⟨b0, o0, none⟩) n l) (hn : n ≤ 400000000) (hm : s.size ≤ 400000000) (hq : nm.size ≤ 400000000) (hz : ∀ r ∈ l, r.name.size ≤ 400000000) :
    Calls Tryd.prog 8 #[.agg #[.string s, .slice (some ⟨b0, o0, none⟩) n c], .string nm] w fun e w' => e = .returned (cv (co nm (uq (cn s l)))) ∧ Below w.heap.size w w' := by
  have L0 := Lib.hid ((Below.refl w.heap.size w).alloc (Nat.le_refl _) (.cells #[.string s, .slice (some ⟨b0, o0, none⟩) n c] 26))
  have X0 := Lib.hid (zx_new w 26 s (.slice (some ⟨b0, o0, none⟩) n c))
  have CS := Lib.hid (fun W hW => CutsOfI.impl s b0 o0 n c l W hW hn hm hz)
  have S0 := Lib.hid (hs.on L0.out)
  have HLN : Hid ((uq (cn s l)).length ≤ 400000000) := by show _ ≤ _; have h1 := len_uq (cn s l); have h2 := cn_len s l; have := hs.1; omega
  have HZ : Hid (∀ x ∈ uq (cn s l), x.size ≤ 400000000) := fun x hx => by obtain ⟨r, hr, rfl⟩ := cn_mem (mem_uq.1 hx); exact hz r hr
  clear hs hz
  generalize uq (cn s l) = L at *
  obtain ⟨x0, x1⟩ := X0.out
  go_enter Tryd.func8, Tryd.ntmps8
  go_wp2_with fail
  refine (CS.out _ S0.out).mono ?_
  rintro e w1 ⟨g, m, cap, r', rfl, hlm, hmc, hg, hb, hl⟩
  have HM := Lib.hid hlm
  have hm' : m ≤ 400000000 := by have := HLN.out; omega
  have B1 := Lib.hid hb
  have L1 := Lib.hid (L0.out.trans (hl.mono L0.out.size))
  clear hlm hmc hg hb hl CS S0 X0 L0 x0 x1 HLN
  go_wp2
  go_loopw [11] (fun i wr => ∃ k : Nat, k ≤ m ∧ i = .int .i64 k ∧ Hid (co nm (L.take k) = none) ∧ Hid (Bk wr g 9 (L.map tv ++ r')) ∧ Hid (Below w.heap.size w wr)) (fun i _ => m - (intOf i).toNat)
  case atStart => exact ⟨0, Nat.zero_le _, rfl, rfl, B1.out, L1.out⟩
  case round =>
    clear B1 L1
    obtain ⟨k, hk, rfl, HE, HB, HL⟩ := hrel
    by_cases hlt : k < m
    · have hkl : k < L.length := by rw [HM.out]; exact hlt
      have e0 : wr.cell? ⟨g, k, none⟩ = some (.string L[k]) := by
        rw [HB.out.cell, List.getElem?_append_left (by rw [List.length_map]; exact hkl), tv_get]
      have HH := Lib.hid (fun e => co_hit nm L k hkl e HE.out)
      have HN := Lib.hid (fun e => co_next nm L k hkl e HE.out)
      have HY := Lib.hid (HZ.out _ (List.getElem_mem hkl))
      generalize L[k] = y at *
      have US := Lib.hid (fun W => UnderImpl.impl nm y W hq HY.out)
      generalize Un nm y = u at *
      go_wp2_with fail
      refine (US.out _).mono ?_
      rintro e w2 ⟨rfl, rfl⟩
      have B2 := Lib.hid HB.out
      have L2 := Lib.hid HL.out
      clear US e0 HB HL
      cases u with
      | true =>
        have HF := Lib.hid (HH.out rfl)
        clear HH HN
        go_wp2
        go_ret2
        exact ⟨congrArg (fun b => Ending.returned (cv b)) HF.out.symm, L2.out⟩
      | false =>
        have HF := Lib.hid (HN.out rfl)
        clear HH HN
        go_wp2
        go_roundw
        case rel => exact ⟨k + 1, by omega, by go_num, HF.out, B2.out, L2.out⟩
        case measure => simp [intOf]; omega
    · obtain rfl : m = k := by omega
      have HF : Hid (co nm L = none) := by rw [take_all HM.out] at HE; exact HE
      go_wp2
      go_ret2
      exact ⟨congrArg (fun b => Ending.returned (cv b)) HF.out.symm, HL.out⟩

end Go.Proofs.YtkpcanigdppegaaDoor.CutOfI

/- What cutsOk does in the program: what lies under a cut is one of its servers or an address. Condition: fewer than 400000001 records, no name of more than 400000000 bytes. -/
namespace Go.Proofs.YtkpcanigdppegaaDoor.CutI
open Go.RowKit Go.Proofs.YtkpcanigdppegaaDoor.Mem Go.Proofs.YtkpcanigdppegaaDoor.MemR Go.Proofs.YtkpcanigdppegaaDoor.SetMath Go.Proofs.YtkpcanigdppegaaDoor.NameMath Go.Proofs.YtkpcanigdppegaaDoor.NameOk Go.Proofs.YtkpcanigdppegaaDoor.ZoneMath Go.Proofs.YtkpcanigdppegaaDoor.MemZ Go.Proofs.YtkpcanigdppegaaDoor.RecOk Go.Proofs.YtkpcanigdppegaaDoor.LessR Go.Proofs.YtkpcanigdppegaaDoor.ZokMath Go.Proofs.YtkpcanigdppegaaDoor.Labels Go.Proofs.YtkpcanigdppegaaDoor.BoxR

theorem pc_none {s : ByteArray} {l : List Rec} {k : Nat} (h : k < l.length) (e : co l[k].name (uq (cn s l)) = none) : Pc s l k := by
  intro c hc
  rw [at0_get h, e] at hc
  cases hc

theorem pc_some {s x : ByteArray} {l : List Rec} {k : Nat} (h : k < l.length) (e : co l[k].name (uq (cn s l)) = some x) : Pc s l k ↔ (l[k].ty ≠ 1 → (l[k].name = x ∧ l[k].ty = 2)) := by
  unfold Pc
  rw [at0_get h, e]
  constructor
  · intro g; exact g x rfl
  · intro g c hc
    cases hc
    exact g

set_option maxHeartbeats 8000000 in
theorem impl (s : ByteArray) (b0 o0 n c : Nat) (l : List Rec) (w : World) (hs : Sr w w.heap.size (some ⟨b0, o0, none⟩) n l) (hn : n ≤ 400000000) (hm : s.size ≤ 400000000) (hz : ∀ r ∈ l, r.name.size ≤ 400000000) :
    Calls Tryd.prog 44 #[.agg #[.string s, .slice (some ⟨b0, o0, none⟩) n c]] w fun e w' => e = .returned (.bool (dec (Alln l.length (Pc s l)))) ∧ Below w.heap.size w w' := by
  have Z0 := Lib.hid (zx_new w 26 s (.slice (some ⟨b0, o0, none⟩) n c))
  have L0 := Lib.hid ((Below.refl w.heap.size w).alloc (Nat.le_refl _) (.cells #[.string s, .slice (some ⟨b0, o0, none⟩) n c] 26))
  have HS := Lib.hid hs
  have HZ := Lib.hid hz
  clear hs hz
  go_enter Tryd.func44, Tryd.ntmps44
  go_wp2
  generalize w.alloc (.cells #[.string s, .slice (some ⟨b0, o0, none⟩) n c] 26) = w0 at *
  go_loopw [10] (fun i wr => ∃ k : Nat, k ≤ n ∧ i = .int .i64 k ∧ Hid (Alln k (Pc s l)) ∧ Hid (Zx wr w.heap.size s (.slice (some ⟨b0, o0, none⟩) n c)) ∧ Hid (Below w.heap.size w wr)) (fun i _ => n - (intOf i).toNat)
  case atStart => exact ⟨0, Nat.zero_le _, rfl, alln_zero, Z0.out, L0.out⟩
  case round =>
    clear Z0 L0
    obtain ⟨k, hk, rfl, HE, HX, HL⟩ := hrel
    by_cases hlt : k < n
    · obtain ⟨b, off, hA, hbB, hcs⟩ := HS.out.2 (by omega)
      obtain ⟨rfl, rfl⟩ : b0 = b ∧ o0 = off := by simp at hA; exact hA
      clear hA
      have hkl : k < l.length := by rw [HS.out.1]; exact hlt
      obtain ⟨e0, e1, e2, e3, e4, e5⟩ := (hcs k hkl).below HL.out hbB
      clear hcs
      obtain ⟨z0, z1⟩ := HX.out
      have ltz := HX.out.lt
      have HM := Lib.hid (HZ.out _ (List.getElem_mem hkl))
      have HP0 := Lib.hid (pc_none (s := s) hkl)
      have HP1 : Hid (∀ x, co l[k].name (uq (cn s l)) = some x → (Pc s l k ↔ (l[k].ty ≠ 1 → (l[k].name = x ∧ l[k].ty = 2)))) := fun x => pc_some hkl
      generalize l[k] = r at *
      have W1 : Hid (Below w.heap.size w (wr.alloc (.cells #[.string r.name, .int .i64 r.ty, .int .i64 r.ttl, .int .i64 r.n, .string r.host, .string r.text] 39))) := HL.out.alloc HL.out.size _
      have X1 := Lib.hid (HX.out.alloc (.cells #[.string r.name, .int .i64 r.ty, .int .i64 r.ttl, .int .i64 r.n, .string r.host, .string r.text] 39))
      have A1 := Lib.hid (bx_new wr 39 r)
      have CO := Lib.hid (CutOfI.impl s r.name b0 o0 n c l (wr.alloc (.cells #[.string r.name, .int .i64 r.ty, .int .i64 r.ttl, .int .i64 r.n, .string r.host, .string r.text] 39)) (HS.out.on W1.out) hn hm HM.out HZ.out)
      cases hco : co r.name (uq (cn s l)) with
      | none =>
        have HN := Lib.hid (alln_next HE.out (HP0.out hco))
        rw [hco] at CO
        clear hco HP0 HP1
        go_wp2_with fail
        refine CO.out.mono ?_
        rintro e w2 ⟨rfl, hl⟩
        have L2 := Lib.hid (W1.out.trans (hl.mono W1.out.size))
        have X2 := Lib.hid (X1.out.below hl)
        clear hl CO z0 z1 e0 e1 e2 e3 e4 e5 A1
        unfold cv
        go_wp2
        go_roundw
        case rel => exact ⟨k + 1, by omega, by go_num, HN.out, X2.out, L2.out⟩
        case measure => simp [intOf]; omega
      | some x =>
        have HP := Lib.hid (HP1.out x hco)
        rw [hco] at CO
        clear hco HP0 HP1
        go_wp2_with fail
        refine CO.out.mono ?_
        rintro e w2 ⟨rfl, hl⟩
        have L2 := Lib.hid (W1.out.trans (hl.mono W1.out.size))
        have X2 := Lib.hid (X1.out.below hl)
        have A2 := Lib.hid (A1.out.below hl)
        clear hl CO z0 z1 e0 e1 e2 e3 e4 e5 A1 W1 X1
        obtain ⟨a0, a1, a2, a3, a4, a5⟩ := A2.out
        generalize wr.heap.size = ga at *
        unfold cv
        by_cases hty : r.ty = 1
        · have HN := Lib.hid (alln_next HE.out (HP.out.2 (fun h => absurd hty h)))
          have t0 : (r.ty == 1) = true := by simpa using hty
          clear hty HP
          go_wp2
          go_roundw
          case rel => exact ⟨k + 1, by omega, by go_num, HN.out, X2.out, L2.out⟩
          case measure => simp [intOf]; omega
        have t0 : (r.ty == 1) = false := by simpa using hty
        go_wp2_with fail
        refine (KeyI.keyOf r _).mono ?_
        rintro e w3 ⟨rfl, hl⟩
        have L3 := Lib.hid (L2.out.trans (hl.mono L2.out.size))
        have X3 := Lib.hid (X2.out.below hl)
        clear hl a0 a1 a2 a3 a4 a5 A2 X2 L2
        by_cases hkx : r.name = x ∧ r.ty = 2
        · have HN := Lib.hid (alln_next HE.out (HP.out.2 (fun _ => hkx)))
          obtain ⟨hk1, hk2⟩ := hkx
          have q := EqlQ.neq_same x 2
          rw [hk1, hk2]
          clear hty HP t0 hk1 hk2
          go_wp2
          go_roundw
          case rel => exact ⟨k + 1, by omega, by go_num, HN.out, X3.out, L3.out⟩
          case measure => simp [intOf]; omega
        · have HF := Lib.hid (dec_false (alln_not hkl (fun h => hkx (HP.out.1 h hty))))
          have q := EqlQ.neq_diff hkx
          clear hty HP t0 hkx
          go_wp2
          go_ret
          exact ⟨congrArg (fun b => Ending.returned (Value.bool b)) HF.out.symm, L3.out⟩
    · obtain rfl : n = k := by omega
      have HF : Hid (dec (Alln l.length (Pc s l)) = true) := dec_true (by rw [HS.out.1]; exact HE.out)
      go_wp2
      go_ret
      exact ⟨congrArg (fun b => Ending.returned (Value.bool b)) HF.out.symm, HL.out⟩

end Go.Proofs.YtkpcanigdppegaaDoor.CutI

/- What ZoneOk does in the program. Condition: fewer than 100000001 records, of at most 400000000 bytes a text. -/
namespace Go.Proofs.YtkpcanigdppegaaDoor.ZokI
open Go.RowKit Go.Proofs.YtkpcanigdppegaaDoor.Mem Go.Proofs.YtkpcanigdppegaaDoor.MemR Go.Proofs.YtkpcanigdppegaaDoor.SetMath Go.Proofs.YtkpcanigdppegaaDoor.NameMath Go.Proofs.YtkpcanigdppegaaDoor.NameOk Go.Proofs.YtkpcanigdppegaaDoor.ZoneMath Go.Proofs.YtkpcanigdppegaaDoor.MemZ Go.Proofs.YtkpcanigdppegaaDoor.RecOk Go.Proofs.YtkpcanigdppegaaDoor.LessR Go.Proofs.YtkpcanigdppegaaDoor.ZokMath Go.Proofs.YtkpcanigdppegaaDoor.Labels Go.Proofs.YtkpcanigdppegaaDoor.RecsOk

set_option maxHeartbeats 8000000 in
theorem impl (s : ByteArray) (b0 o0 n c : Nat) (l : List Rec) (w : World) (he : Env w) (hs : Sr w w.heap.size (some ⟨b0, o0, none⟩) n l) (hn : n ≤ 100000000) (hm : s.size ≤ 400000000) (hz : ∀ r ∈ l, Mod r) :
    Calls Tryd.prog 10 #[.agg #[.string s, .slice (some ⟨b0, o0, none⟩) n c]] w fun e w' => e = .returned (.bool (zok s l)) ∧ Below w.heap.size w w' := by
  have Z0 := Lib.hid (zx_new w 26 s (.slice (some ⟨b0, o0, none⟩) n c))
  have L0 := Lib.hid ((Below.refl w.heap.size w).alloc (Nat.le_refl _) (.cells #[.string s, .slice (some ⟨b0, o0, none⟩) n c] 26))
  have HZK := Lib.hid (zok_iff (s := s) (l := l))
  have HNM : ∀ r ∈ l, r.name.size ≤ 400000000 := fun r hr => (hz r hr).1
  have C1 : Hid (∀ W : World, Below w.heap.size w W → Calls Tryd.prog 38 #[.string s] W fun e w' => e = .returned (.bool (Nm s)) ∧ Below W.heap.size W w') := fun W hW => NameOk.impl s W (he.below hW) hm
  have C2 : Hid (∀ W : World, Below w.heap.size w W → Calls Tryd.prog 39 #[.slice (some ⟨b0, o0, none⟩) n c, .int .i64 20] W fun e w' => e = .returned (.bool (dec (Ro 20 l))) ∧ Below W.heap.size W w') := fun W hW => RecsOk.impl 20 b0 o0 n c l W (hs.on hW) (by omega) (he.below hW) hz
  have C3 : Hid (∀ W : World, Below w.heap.size w W → Calls Tryd.prog 40 #[.slice (some ⟨b0, o0, none⟩) n c, .string s] W fun e w' => e = .returned (.bool (dec (Alln l.length (Pu s l)))) ∧ Below W.heap.size W w') := fun W hW => AllU.impl s b0 o0 n c l W (hs.on hW) (by omega) hm HNM
  have C4 : Hid (∀ W : World, Below w.heap.size w W → Calls Tryd.prog 41 #[.slice (some ⟨b0, o0, none⟩) n c] W fun e w' => e = .returned (.bool (dec (Alln l.length (Po l)))) ∧ Below W.heap.size W w') := fun W hW => OrdI.impl b0 o0 n c l W (hs.on hW) (by omega) (he.below hW) (fun r hr => ⟨(hz r hr).1, (hz r hr).2.1⟩)
  have C5 : Hid (∀ W : World, Below w.heap.size w W → Calls Tryd.prog 42 #[.agg #[.string s, .slice (some ⟨b0, o0, none⟩) n c]] W fun e w' => e = .returned (.bool (dec (Ap s l))) ∧ Below W.heap.size W w') := fun W hW => ApxI.impl s b0 o0 n c l W (hs.on hW) hn hm HNM
  have C6 : Hid (∀ W : World, Below w.heap.size w W → Calls Tryd.prog 43 #[.agg #[.string s, .slice (some ⟨b0, o0, none⟩) n c]] W fun e w' => e = .returned (.bool (dec (Alln l.length (Pa s l)))) ∧ Below W.heap.size W w') := fun W hW => AliI.impl s b0 o0 n c l W (hs.on hW) (by omega)
  have C7 : Hid (∀ W : World, Below w.heap.size w W → Calls Tryd.prog 44 #[.agg #[.string s, .slice (some ⟨b0, o0, none⟩) n c]] W fun e w' => e = .returned (.bool (dec (Alln l.length (Pc s l)))) ∧ Below W.heap.size W w') := fun W hW => CutI.impl s b0 o0 n c l W (hs.on hW) (by omega) hm HNM
  have F1 : Hid (Nm s = false → zok s l = false) := fun g => dec_false (fun k => by have h := HZK.out.1 k; have := h.1.1; rw [g] at this; cases this)
  have F2 : Hid (dec (Ro 20 l) = false → zok s l = false) := fun g => dec_false (fun k => dec_no g (by have h := HZK.out.1 k; exact h.1.2))
  have F3 : Hid (dec (Alln l.length (Pu s l)) = false → zok s l = false) := fun g => dec_false (fun k => dec_no g (by have h := HZK.out.1 k; exact h.2.1))
  have F4 : Hid (dec (Alln l.length (Po l)) = false → zok s l = false) := fun g => dec_false (fun k => dec_no g (by have h := HZK.out.1 k; exact h.2.2.1))
  have F5 : Hid (dec (Ap s l) = false → zok s l = false) := fun g => dec_false (fun k => dec_no g (by have h := HZK.out.1 k; exact h.2.2.2.1))
  have F6 : Hid (dec (Alln l.length (Pa s l)) = false → zok s l = false) := fun g => dec_false (fun k => dec_no g (by have h := HZK.out.1 k; exact h.2.2.2.2.1))
  have F7 : Hid (dec (Alln l.length (Pc s l)) = false → zok s l = false) := fun g => dec_false (fun k => dec_no g (by have h := HZK.out.1 k; exact h.2.2.2.2.2))
  have FT : Hid (Nm s = true → dec (Ro 20 l) = true → dec (Alln l.length (Pu s l)) = true → dec (Alln l.length (Po l)) = true → dec (Ap s l) = true → dec (Alln l.length (Pa s l)) = true → dec (Alln l.length (Pc s l)) = true → zok s l = true) := fun g1 g2 g3 g4 g5 g6 g7 => dec_true (HZK.out.2 ⟨⟨g1, dec_iff.1 g2⟩, dec_iff.1 g3, dec_iff.1 g4, dec_iff.1 g5, dec_iff.1 g6, dec_iff.1 g7⟩)
  clear hs hz he HNM HZK
  generalize zok s l = v at *
  generalize Nm s = v1 at *
  generalize dec (Ro 20 l) = v2 at *
  generalize dec (Alln l.length (Pu s l)) = v3 at *
  generalize dec (Alln l.length (Po l)) = v4 at *
  generalize dec (Ap s l) = v5 at *
  generalize dec (Alln l.length (Pa s l)) = v6 at *
  generalize dec (Alln l.length (Pc s l)) = v7 at *
  go_enter Tryd.func10, Tryd.ntmps10
  cases hb1 : v1 with
  | false =>
    have HF := Lib.hid (F1.out hb1)
    rw [hb1] at C1
    obtain ⟨z0, z1⟩ := Z0.out
    go_wp2_with fail
    refine (C1.out _ L0.out).mono ?_
    rintro e w1 ⟨rfl, hl⟩
    have L1 := Lib.hid (L0.out.trans (hl.mono L0.out.size))
    clear hl C1 z0 z1 Z0
    go_wp2
    go_ret
    exact ⟨congrArg (fun b => Ending.returned (Value.bool b)) HF.out.symm, L1.out⟩
  | true =>
    rw [hb1] at C1
    obtain ⟨z0, z1⟩ := Z0.out
    go_wp2_with fail
    refine (C1.out _ L0.out).mono ?_
    rintro e w1 ⟨rfl, hl⟩
    have L1 := Lib.hid (L0.out.trans (hl.mono L0.out.size))
    have Z1 := Lib.hid (Z0.out.below hl)
    clear hl C1 z0 z1 Z0
    cases hb2 : v2 with
    | false =>
      have HF := Lib.hid (F2.out hb2)
      rw [hb2] at C2
      obtain ⟨z0, z1⟩ := Z1.out
      go_wp2_with fail
      refine (C2.out _ L1.out).mono ?_
      rintro e w2 ⟨rfl, hl⟩
      have L2 := Lib.hid (L1.out.trans (hl.mono L1.out.size))
      clear hl C2 z0 z1 Z1
      go_wp2
      go_ret
      exact ⟨congrArg (fun b => Ending.returned (Value.bool b)) HF.out.symm, L2.out⟩
    | true =>
      rw [hb2] at C2
      obtain ⟨z0, z1⟩ := Z1.out
      go_wp2_with fail
      refine (C2.out _ L1.out).mono ?_
      rintro e w2 ⟨rfl, hl⟩
      have L2 := Lib.hid (L1.out.trans (hl.mono L1.out.size))
      have Z2 := Lib.hid (Z1.out.below hl)
      clear hl C2 z0 z1 Z1
      cases hb3 : v3 with
      | false =>
        have HF := Lib.hid (F3.out hb3)
        rw [hb3] at C3
        obtain ⟨z0, z1⟩ := Z2.out
        go_wp2_with fail
        refine (C3.out _ L2.out).mono ?_
        rintro e w3 ⟨rfl, hl⟩
        have L3 := Lib.hid (L2.out.trans (hl.mono L2.out.size))
        clear hl C3 z0 z1 Z2
        go_wp2
        go_ret
        exact ⟨congrArg (fun b => Ending.returned (Value.bool b)) HF.out.symm, L3.out⟩
      | true =>
        rw [hb3] at C3
        obtain ⟨z0, z1⟩ := Z2.out
        go_wp2_with fail
        refine (C3.out _ L2.out).mono ?_
        rintro e w3 ⟨rfl, hl⟩
        have L3 := Lib.hid (L2.out.trans (hl.mono L2.out.size))
        have Z3 := Lib.hid (Z2.out.below hl)
        clear hl C3 z0 z1 Z2
        cases hb4 : v4 with
        | false =>
          have HF := Lib.hid (F4.out hb4)
          rw [hb4] at C4
          obtain ⟨z0, z1⟩ := Z3.out
          go_wp2_with fail
          refine (C4.out _ L3.out).mono ?_
          rintro e w4 ⟨rfl, hl⟩
          have L4 := Lib.hid (L3.out.trans (hl.mono L3.out.size))
          clear hl C4 z0 z1 Z3
          go_wp2
          go_ret
          exact ⟨congrArg (fun b => Ending.returned (Value.bool b)) HF.out.symm, L4.out⟩
        | true =>
          rw [hb4] at C4
          obtain ⟨z0, z1⟩ := Z3.out
          go_wp2_with fail
          refine (C4.out _ L3.out).mono ?_
          rintro e w4 ⟨rfl, hl⟩
          have L4 := Lib.hid (L3.out.trans (hl.mono L3.out.size))
          have Z4 := Lib.hid (Z3.out.below hl)
          clear hl C4 z0 z1 Z3
          cases hb5 : v5 with
          | false =>
            have HF := Lib.hid (F5.out hb5)
            rw [hb5] at C5
            obtain ⟨z0, z1⟩ := Z4.out
            go_wp2_with fail
            refine (C5.out _ L4.out).mono ?_
            rintro e w5 ⟨rfl, hl⟩
            have L5 := Lib.hid (L4.out.trans (hl.mono L4.out.size))
            clear hl C5 z0 z1 Z4
            go_wp2
            go_ret
            exact ⟨congrArg (fun b => Ending.returned (Value.bool b)) HF.out.symm, L5.out⟩
          | true =>
            rw [hb5] at C5
            obtain ⟨z0, z1⟩ := Z4.out
            go_wp2_with fail
            refine (C5.out _ L4.out).mono ?_
            rintro e w5 ⟨rfl, hl⟩
            have L5 := Lib.hid (L4.out.trans (hl.mono L4.out.size))
            have Z5 := Lib.hid (Z4.out.below hl)
            clear hl C5 z0 z1 Z4
            cases hb6 : v6 with
            | false =>
              have HF := Lib.hid (F6.out hb6)
              rw [hb6] at C6
              obtain ⟨z0, z1⟩ := Z5.out
              go_wp2_with fail
              refine (C6.out _ L5.out).mono ?_
              rintro e w6 ⟨rfl, hl⟩
              have L6 := Lib.hid (L5.out.trans (hl.mono L5.out.size))
              clear hl C6 z0 z1 Z5
              go_wp2
              go_ret
              exact ⟨congrArg (fun b => Ending.returned (Value.bool b)) HF.out.symm, L6.out⟩
            | true =>
              rw [hb6] at C6
              obtain ⟨z0, z1⟩ := Z5.out
              go_wp2_with fail
              refine (C6.out _ L5.out).mono ?_
              rintro e w6 ⟨rfl, hl⟩
              have L6 := Lib.hid (L5.out.trans (hl.mono L5.out.size))
              have Z6 := Lib.hid (Z5.out.below hl)
              clear hl C6 z0 z1 Z5
              cases hb7 : v7 with
              | false =>
                have HF := Lib.hid (F7.out hb7)
                rw [hb7] at C7
                obtain ⟨z0, z1⟩ := Z6.out
                go_wp2_with fail
                refine (C7.out _ L6.out).mono ?_
                rintro e w7 ⟨rfl, hl⟩
                have L7 := Lib.hid (L6.out.trans (hl.mono L6.out.size))
                clear hl C7 z0 z1 Z6
                go_wp2
                go_ret
                exact ⟨congrArg (fun b => Ending.returned (Value.bool b)) HF.out.symm, L7.out⟩
              | true =>
                rw [hb7] at C7
                obtain ⟨z0, z1⟩ := Z6.out
                go_wp2_with fail
                refine (C7.out _ L6.out).mono ?_
                rintro e w7 ⟨rfl, hl⟩
                have L7 := Lib.hid (L6.out.trans (hl.mono L6.out.size))
                clear hl C7 z0 z1 Z6
                have HF := Lib.hid (FT.out hb1 hb2 hb3 hb4 hb5 hb6 hb7)
                go_wp2
                go_ret
                exact ⟨congrArg (fun b => Ending.returned (Value.bool b)) HF.out.symm, L7.out⟩

end Go.Proofs.YtkpcanigdppegaaDoor.ZokI

/- What CutsOf does in the model: the names of the cuts, each once. Condition: fewer than 400000001 records, no name of more than 400000000 bytes. -/
namespace Go.Proofs.YtkpcanigdppegaaDoor.CutsS
open Go.RowKit Go.Proofs.YtkpcanigdppegaaDoor.Mem Go.Proofs.YtkpcanigdppegaaDoor.MemR Go.Proofs.YtkpcanigdppegaaDoor.BoxR Go.Proofs.YtkpcanigdppegaaDoor.SetMath Go.Proofs.YtkpcanigdppegaaDoor.NameMath Go.Proofs.YtkpcanigdppegaaDoor.ZoneMath Go.Proofs.YtkpcanigdppegaaDoor.MemZ Go.Proofs.YtkpcanigdppegaaDoor.Isin Go.Proofs.YtkpcanigdppegaaDoor.MemS Go.Proofs.YtkpcanigdppegaaDoor.AppS Go.Proofs.YtkpcanigdppegaaDoor.HostS

set_option maxHeartbeats 8000000 in
theorem spec (s : ByteArray) (b0 o0 n c : Nat) (l : List Rec) (w : World) (hs : Sr w w.heap.size (some ⟨b0, o0, none⟩) n l) (hn : n ≤ 400000000) (hm : s.size ≤ 400000000) (hz : ∀ r ∈ l, r.name.size ≤ 400000000) :
    Calls Tryd.prog 28 #[.agg #[.string s, .slice (some ⟨b0, o0, none⟩) n c]] w (GivesS w (uq (cn s l))) := by
  obtain ⟨i0, hi, hz0, hz1, hz2⟩ := info_parts info
  have Z0 := Lib.hid ((zx_new w 26 s (.slice (some ⟨b0, o0, none⟩) n c)).alloc (.cells #[] 9))
  have L0 := Lib.hid (((Below.refl w.heap.size w).alloc (Nat.le_refl _) (.cells #[.string s, .slice (some ⟨b0, o0, none⟩) n c] 26)).alloc (by simp) (.cells #[] 9))
  have P0 := Lib.hid (owns_new (w.alloc (.cells #[.string s, .slice (some ⟨b0, o0, none⟩) n c] 26)))
  rw [show (w.alloc (.cells #[.string s, .slice (some ⟨b0, o0, none⟩) n c] 26)).heap.size = w.heap.size + 1 by simp] at P0
  have HS := Lib.hid hs
  have HZ := Lib.hid hz
  clear hs hz
  go_enter Tryd.func28, Tryd.ntmps28
  go_wp2
  generalize (w.alloc (.cells #[.string s, .slice (some ⟨b0, o0, none⟩) n c] 26)).alloc (.cells #[] 9) = w0 at *
  go_loopw [3, 4] (fun out i wr => ∃ k g m cap : Nat, k ≤ n ∧ m ≤ k ∧ i = .int .i64 k ∧ out = .slice (some ⟨g, 0, none⟩) m cap ∧ Hid (wr.ownsRow (w.heap.size + 1) 9 1 (.slice (some ⟨g, 0, none⟩) m cap) m ((uq (cn s (l.take k))).map tv)) ∧ Hid (Zx wr w.heap.size s (.slice (some ⟨b0, o0, none⟩) n c)) ∧ Hid (Below w.heap.size w wr)) (fun _ i _ => n - (intOf i).toNat)
  case atStart => exact ⟨0, w.heap.size + 1, 0, 0, Nat.zero_le _, Nat.le_refl _, rfl, rfl, P0.out, Z0.out, L0.out⟩
  case round =>
    clear Z0 L0 P0
    obtain ⟨k, g, m, cap, hk, hm', rfl, rfl, HO, HX, HL⟩ := hrel
    obtain ⟨z0, z1⟩ := HX.out
    have ltz := HX.out.lt
    by_cases hlt : k < n
    · obtain ⟨b, off, hA, hbB, hcs⟩ := HS.out.2 (by omega)
      obtain ⟨rfl, rfl⟩ : b0 = b ∧ o0 = off := by simp at hA; exact hA
      clear hA
      have hkl : k < l.length := by rw [HS.out.1]; exact hlt
      obtain ⟨e0, e1, e2, e3, e4, e5⟩ := (hcs k hkl).below HL.out hbB
      clear hcs
      have HT := Lib.hid (cn_take s l k hkl)
      have HM := Lib.hid (HZ.out _ (List.getElem_mem hkl))
      generalize l[k] = r at *
      have R0 := Lib.hid (bx_new wr 39 r)
      have O0 := Lib.hid (HO.out.alloc (.cells #[.string r.name, .int .i64 r.ty, .int .i64 r.ttl, .int .i64 r.n, .string r.host, .string r.text] 39))
      have X0 := Lib.hid (HX.out.alloc (.cells #[.string r.name, .int .i64 r.ty, .int .i64 r.ttl, .int .i64 r.n, .string r.host, .string r.text] 39))
      have L0 := Lib.hid (HL.out.alloc HL.out.size (.cells #[.string r.name, .int .i64 r.ty, .int .i64 r.ttl, .int .i64 r.n, .string r.host, .string r.text] 39))
      by_cases hty : ¬ r.ty = 2
      · have HA := Lib.hid (show uq (cn s (l.take (k + 1))) = uq (cn s (l.take k)) from by rw [HT.out, isc_false (fun h => hty h.1), if_neg (by decide), List.append_nil])
        have t0 : (r.ty == 2) = false := by simpa using hty
        clear hty
        go_wp2
        go_roundw
        case rel => exact ⟨k + 1, g, m, cap, by omega, by omega, by go_num, rfl, by rw [HA.out]; exact O0.out, X0.out, L0.out⟩
        case measure => simp [intOf]; omega
      replace hty : r.ty = 2 := Classical.not_not.1 hty
      have t0 : (r.ty == 2) = true := by simpa using hty
      by_cases hnm : r.name = s
      · have HA := Lib.hid (show uq (cn s (l.take (k + 1))) = uq (cn s (l.take k)) from by rw [HT.out, isc_false (fun h => h.2.1 hnm), if_neg (by decide), List.append_nil])
        have t1 : (r.name.toList == s.toList) = true := by rw [hnm]; simp
        have t2 : (r.name.data.toList == s.data.toList) = true := by rw [hnm]; simp
        clear hty hnm
        go_wp2
        go_roundw
        case rel => exact ⟨k + 1, g, m, cap, by omega, by omega, by go_num, rfl, by rw [HA.out]; exact O0.out, X0.out, L0.out⟩
        case measure => simp [intOf]; omega
      have t1 : (r.name.toList == s.toList) = false := bytes_ne hnm
      have t2 : (r.name.data.toList == s.data.toList) = false := by rw [← ByteArray.toList_eq, ← ByteArray.toList_eq]; exact t1
      have US := Lib.hid (fun W => Under.spec r.name s W HM.out hm)
      have HU : Hid (Un r.name s = true → uq (cn s (l.take (k + 1))) = add (uq (cn s (l.take k))) r.name) := fun hu => by rw [HT.out, isc_true ⟨hty, hnm, hu⟩, if_pos rfl, uq_snoc]
      have HV : Hid (Un r.name s = false → uq (cn s (l.take (k + 1))) = uq (cn s (l.take k))) := fun hu => by rw [HT.out, isc_false (fun h => by rw [hu] at h; exact absurd h.2.2 (by decide)), if_neg (by decide), List.append_nil]
      generalize Un r.name s = u at *
      clear hty hnm HT
      have HZ2 : Hid ((uq (cn s (l.take k))).length = m) := show _ = _ by have := HO.out.1; simpa using this
      have SS : Hid (∀ W : World, W.ownsRow (w.heap.size + 1) 9 1 (.slice (some ⟨g, 0, none⟩) m cap) m ((uq (cn s (l.take k))).map tv) → Calls Tryd.prog 55 #[.slice (some ⟨g, 0, none⟩) m cap, .string r.name] W fun e w' => e = .returned (.bool (isin (uq (cn s (l.take k))) (r.name))) ∧ Below W.heap.size W w') :=
        fun W O => has _ m cap (uq (cn s (l.take k))) (r.name) W (show Ss W W.heap.size (some ⟨g, 0, none⟩) m (uq (cn s (l.take k))) from by obtain ⟨r', hb, _, _⟩ := bk_of_owns O; exact bk_ssw hb HZ2.out) (by omega)
      go_wp2_with fail
      refine (US.out _).mono ?_
      rintro e w1 ⟨rfl, hl⟩
      have L1 := Lib.hid (L0.out.trans (hl.mono L0.out.size))
      have X1 := Lib.hid (X0.out.below hl)
      have R1 := Lib.hid (R0.out.below hl)
      have O1 := Lib.hid (O0.out.kept (grown_of_below hl none) (Or.inr (fun e => by cases e)))
      clear hl US z0 z1 e0 e1 e2 e3 e4 e5 L0 X0 R0 O0
      obtain ⟨z0, z1⟩ := X1.out
      obtain ⟨r0, r1, r2, r3, r4, r5⟩ := R1.out
      cases u with
      | false =>
        have HA := Lib.hid (HV.out rfl)
        go_wp2
        go_roundw
        case rel => exact ⟨k + 1, g, m, cap, by omega, by omega, by go_num, rfl, by rw [HA.out]; exact O1.out, X1.out, L1.out⟩
        case measure => simp [intOf]; omega
      | true =>
        have HB := Lib.hid (HU.out rfl)
        clear HU HV
        go_wp2_with fail
        refine (SS.out _ O1.out).mono ?_
        rintro e w2 ⟨rfl, hl⟩
        have L2 := Lib.hid (L1.out.trans (hl.mono L1.out.size))
        have X2 := Lib.hid (X1.out.below hl)
        have R2 := Lib.hid (R1.out.below hl)
        have O2 := Lib.hid (O1.out.kept (grown_of_below hl none) (Or.inr (fun e => by cases e)))
        clear hl SS z0 z1 r0 r1 r2 r3 r4 r5 L1 X1 R1 O1
        obtain ⟨z0, z1⟩ := X2.out
        obtain ⟨r0, r1, r2, r3, r4, r5⟩ := R2.out
        by_cases hin : r.name ∈ uq (cn s (l.take k))
        · have HA := Lib.hid (HB.out.trans (add_in hin))
          have HC := Lib.hid (isin_true hin)
          clear hin
          rw [HC.out]
          go_wp2
          go_roundw
          case rel => exact ⟨k + 1, g, m, cap, by omega, by omega, by go_num, rfl, by rw [HA.out]; exact O2.out, X2.out, L2.out⟩
          case measure => simp [intOf]; omega
        · have HA := Lib.hid (HB.out.trans (add_out hin))
          have HC := Lib.hid (isin_false hin)
          clear hin
          have gge : w.heap.size + 1 ≤ g := by obtain ⟨r', _, _, h⟩ := bk_of_owns O2.out; exact h
          rw [HC.out]
          go_wp2_with (at_builtin; refine append_one (w := w2) rfl (.tmp 43) (.tmp 46) 33 rfl (w.heap.size + 1) 9 i0 _ Tryd.underlying33 hi hz0 hz1 hz2 rfl g m cap (uq (cn s (l.take k))) rfl O2.out r.name rfl (by omega) (by have h1 := O2.out.lt g rfl; omega) ?_)
          intro g' cap' w3 hown hgrow
          have O3 := Lib.hid hown
          have X3 := Lib.hid ((X2.out.alloc (.cells #[.string r.name] 9)).grown hgrow (fun e => by have := Option.some.inj e; omega))
          have L3 := Lib.hid ((L2.out.alloc L2.out.size (.cells #[.string r.name] 9)).grown hgrow (Nat.le_trans L2.out.size (by simp)) (fun j hj => by cases hj; omega))
          clear hown hgrow
          go_wp2
          go_roundw
          case rel => exact ⟨k + 1, g', m + 1, cap', by omega, by omega, by go_num, rfl, by rw [HA.out, List.map_append]; exact O3.out, X3.out, L3.out⟩
          case measure => simp [intOf]; omega
    · obtain rfl : n = k := by omega
      have HN := Lib.hid (take_all HS.out.1)
      go_wp2
      go_ret
      have ho := HO.out
      rw [HN.out] at ho
      obtain ⟨r', hb, hc, hg⟩ := bk_of_owns ho
      exact ⟨g, m, cap, r', rfl, by have := ho.1; simpa using this, by rw [← hc, List.length_append]; have := ho.1; omega, by omega, hb, HL.out⟩
end Go.Proofs.YtkpcanigdppegaaDoor.CutsS

/- What CutOf and InZone do in the model. Condition: fewer than 400000001 records, no name of more than 400000000 bytes. -/
namespace Go.Proofs.YtkpcanigdppegaaDoor.CutOfS
open Go.RowKit Go.Proofs.YtkpcanigdppegaaDoor.Mem Go.Proofs.YtkpcanigdppegaaDoor.MemR Go.Proofs.YtkpcanigdppegaaDoor.BoxR Go.Proofs.YtkpcanigdppegaaDoor.SetMath Go.Proofs.YtkpcanigdppegaaDoor.NameMath Go.Proofs.YtkpcanigdppegaaDoor.ZoneMath Go.Proofs.YtkpcanigdppegaaDoor.MemZ Go.Proofs.YtkpcanigdppegaaDoor.MemS Go.Proofs.YtkpcanigdppegaaDoor.AppS

set_option maxHeartbeats 8000000 in
theorem spec (s nm : ByteArray) (b0 o0 n c : Nat) (l : List Rec) (w : World) (hs : Sr w w.heap.size (some ⟨b0, o0, none⟩) n l) (hn : n ≤ 400000000) (hm : s.size ≤ 400000000) (hq : nm.size ≤ 400000000) (hz : ∀ r ∈ l, r.name.size ≤ 400000000) :
    Calls Tryd.prog 19 #[.agg #[.string s, .slice (some ⟨b0, o0, none⟩) n c], .string nm] w fun e w' => e = .returned (cv (co nm (uq (cn s l)))) ∧ Below w.heap.size w w' := by
  have L0 := Lib.hid ((Below.refl w.heap.size w).alloc (Nat.le_refl _) (.cells #[.string s, .slice (some ⟨b0, o0, none⟩) n c] 26))
  have X0 := Lib.hid (zx_new w 26 s (.slice (some ⟨b0, o0, none⟩) n c))
  have CS := Lib.hid (fun W hW => CutsS.spec s b0 o0 n c l W hW hn hm hz)
  have S0 := Lib.hid (hs.on L0.out)
  have HLN : Hid ((uq (cn s l)).length ≤ 400000000) := by show _ ≤ _; have h1 := len_uq (cn s l); have h2 := cn_len s l; have := hs.1; omega
  have HZ : Hid (∀ x ∈ uq (cn s l), x.size ≤ 400000000) := fun x hx => by obtain ⟨r, hr, rfl⟩ := cn_mem (mem_uq.1 hx); exact hz r hr
  clear hs hz
  generalize uq (cn s l) = L at *
  obtain ⟨x0, x1⟩ := X0.out
  go_enter Tryd.func19, Tryd.ntmps19
  go_wp2_with fail
  refine (CS.out _ S0.out).mono ?_
  rintro e w1 ⟨g, m, cap, r', rfl, hlm, hmc, hg, hb, hl⟩
  have HM := Lib.hid hlm
  have hm' : m ≤ 400000000 := by have := HLN.out; omega
  have B1 := Lib.hid hb
  have L1 := Lib.hid (L0.out.trans (hl.mono L0.out.size))
  clear hlm hmc hg hb hl CS S0 X0 L0 x0 x1 HLN
  go_wp2
  go_loopw [7] (fun i wr => ∃ k : Nat, k ≤ m ∧ i = .int .i64 k ∧ Hid (co nm (L.take k) = none) ∧ Hid (Bk wr g 9 (L.map tv ++ r')) ∧ Hid (Below w.heap.size w wr)) (fun i _ => m - (intOf i).toNat)
  case atStart => exact ⟨0, Nat.zero_le _, rfl, rfl, B1.out, L1.out⟩
  case round =>
    clear B1 L1
    obtain ⟨k, hk, rfl, HE, HB, HL⟩ := hrel
    by_cases hlt : k < m
    · have hkl : k < L.length := by rw [HM.out]; exact hlt
      have e0 : wr.cell? ⟨g, k, none⟩ = some (.string L[k]) := by
        rw [HB.out.cell, List.getElem?_append_left (by rw [List.length_map]; exact hkl), tv_get]
      have HH := Lib.hid (fun e => co_hit nm L k hkl e HE.out)
      have HN := Lib.hid (fun e => co_next nm L k hkl e HE.out)
      have HY := Lib.hid (HZ.out _ (List.getElem_mem hkl))
      generalize L[k] = y at *
      have US := Lib.hid (fun W => Under.spec nm y W hq HY.out)
      generalize Un nm y = u at *
      go_wp2_with fail
      refine (US.out _).mono ?_
      rintro e w2 ⟨rfl, hl⟩
      have e1 : w2.cell? ⟨g, k, none⟩ = some (.string y) := (hl.cell (p := ⟨g, k, none⟩) HB.out.lt).trans e0
      have B2 := Lib.hid (HB.out.below hl HB.out.lt)
      have L2 := Lib.hid (HL.out.trans (hl.mono HL.out.size))
      clear hl US e0
      cases u with
      | true =>
        have HF := Lib.hid (HH.out rfl)
        clear HH HN
        go_wp2
        go_ret2
        exact ⟨congrArg (fun b => Ending.returned (cv b)) HF.out.symm, L2.out⟩
      | false =>
        have HF := Lib.hid (HN.out rfl)
        clear HH HN
        go_wp2
        go_roundw
        case rel => exact ⟨k + 1, by omega, by go_num, HF.out, B2.out, L2.out⟩
        case measure => simp [intOf]; omega
    · obtain rfl : m = k := by omega
      have HF : Hid (co nm L = none) := by rw [take_all HM.out] at HE; exact HE
      go_wp2
      go_ret2
      exact ⟨congrArg (fun b => Ending.returned (cv b)) HF.out.symm, HL.out⟩

/-- A name is in the zone. -/
noncomputable def iz (s nm : ByteArray) (l : List Rec) : Bool := Un nm s && !(co nm (uq (cn s l))).isSome

set_option maxHeartbeats 4000000 in
theorem specIn (s nm : ByteArray) (b0 o0 n c : Nat) (l : List Rec) (w : World) (hs : Sr w w.heap.size (some ⟨b0, o0, none⟩) n l) (hn : n ≤ 400000000) (hm : s.size ≤ 400000000) (hq : nm.size ≤ 400000000) (hz : ∀ r ∈ l, r.name.size ≤ 400000000) :
    Calls Tryd.prog 29 #[.agg #[.string s, .slice (some ⟨b0, o0, none⟩) n c], .string nm] w fun e w' => e = .returned (.bool (iz s nm l)) ∧ Below w.heap.size w w' := by
  have L0 := Lib.hid ((Below.refl w.heap.size w).alloc (Nat.le_refl _) (.cells #[.string s, .slice (some ⟨b0, o0, none⟩) n c] 26))
  have X0 := Lib.hid (zx_new w 26 s (.slice (some ⟨b0, o0, none⟩) n c))
  have CS := Lib.hid (fun W hW => spec s nm b0 o0 n c l W hW hn hm hq hz)
  have US := Lib.hid (fun W => Under.spec nm s W hq hm)
  have S0 := Lib.hid (hs.on L0.out)
  clear hs hz
  have HV : Hid (iz s nm l = (Un nm s && !(co nm (uq (cn s l))).isSome)) := rfl
  generalize iz s nm l = v at *
  generalize co nm (uq (cn s l)) = o at *
  generalize Un nm s = u at *
  obtain ⟨x0, x1⟩ := X0.out
  cases o with
  | none =>
    replace CS : Hid (∀ W, Sr W W.heap.size (some ⟨b0, o0, none⟩) n l → Calls Tryd.prog 19 #[.agg #[.string s, .slice (some ⟨b0, o0, none⟩) n c], .string nm] W fun e w' => e = .returned (.tuple #[.string ⟨#[]⟩, .bool false]) ∧ Below W.heap.size W w') := CS
    go_enter Tryd.func29, Tryd.ntmps29
    go_wp2_with fail
    refine (CS.out _ S0.out).mono ?_
    rintro e w1 ⟨rfl, hl⟩
    have X1 := Lib.hid (X0.out.below hl)
    have L1 := Lib.hid (L0.out.trans (hl.mono L0.out.size))
    clear hl CS S0 L0 X0 x0 x1
    obtain ⟨x0, x1⟩ := X1.out
    go_wp2_with fail
    refine (US.out _).mono ?_
    rintro e w2 ⟨rfl, hl⟩
    have L2 := Lib.hid (L1.out.trans (hl.mono L1.out.size))
    clear hl US x0 x1 X1
    have HF : Hid (v = u) := by show _ = _; rw [HV.out]; simp
    clear HV
    cases u with
    | true => go_wp2; go_ret; exact ⟨congrArg (fun b => Ending.returned (Value.bool b)) HF.out.symm, L2.out⟩
    | false => go_wp2; go_ret; exact ⟨congrArg (fun b => Ending.returned (Value.bool b)) HF.out.symm, L2.out⟩
  | some y =>
    replace CS : Hid (∀ W, Sr W W.heap.size (some ⟨b0, o0, none⟩) n l → Calls Tryd.prog 19 #[.agg #[.string s, .slice (some ⟨b0, o0, none⟩) n c], .string nm] W fun e w' => e = .returned (.tuple #[.string y, .bool true]) ∧ Below W.heap.size W w') := CS
    go_enter Tryd.func29, Tryd.ntmps29
    go_wp2_with fail
    refine (CS.out _ S0.out).mono ?_
    rintro e w1 ⟨rfl, hl⟩
    have X1 := Lib.hid (X0.out.below hl)
    have L1 := Lib.hid (L0.out.trans (hl.mono L0.out.size))
    clear hl CS S0 L0 X0 x0 x1
    obtain ⟨x0, x1⟩ := X1.out
    go_wp2_with fail
    refine (US.out _).mono ?_
    rintro e w2 ⟨rfl, hl⟩
    have L2 := Lib.hid (L1.out.trans (hl.mono L1.out.size))
    clear hl US x0 x1 X1
    have HF : Hid (v = false) := by show _ = _; rw [HV.out]; simp
    clear HV
    cases u with
    | true => go_wp2; go_ret; exact ⟨congrArg (fun b => Ending.returned (Value.bool b)) HF.out.symm, L2.out⟩
    | false => go_wp2; go_ret; exact ⟨congrArg (fun b => Ending.returned (Value.bool b)) HF.out.symm, L2.out⟩
end Go.Proofs.YtkpcanigdppegaaDoor.CutOfS

/- What l10Record does in the model at the first record. Condition: fewer than 400000001 records, of at most 400000000 bytes a text. -/
namespace Go.Proofs.YtkpcanigdppegaaDoor.RecZ0
open Go.RowKit Go.Proofs.YtkpcanigdppegaaDoor.Mem Go.Proofs.YtkpcanigdppegaaDoor.MemR Go.Proofs.YtkpcanigdppegaaDoor.SetMath Go.Proofs.YtkpcanigdppegaaDoor.NameMath Go.Proofs.YtkpcanigdppegaaDoor.NameOk Go.Proofs.YtkpcanigdppegaaDoor.ZoneMath Go.Proofs.YtkpcanigdppegaaDoor.MemZ Go.Proofs.YtkpcanigdppegaaDoor.RecOk Go.Proofs.YtkpcanigdppegaaDoor.LessR Go.Proofs.YtkpcanigdppegaaDoor.ZokMath Go.Proofs.YtkpcanigdppegaaDoor.Labels Go.Proofs.YtkpcanigdppegaaDoor.BoxR Go.Proofs.YtkpcanigdppegaaDoor.AliI Go.Proofs.YtkpcanigdppegaaDoor.CutI Go.Proofs.YtkpcanigdppegaaDoor.Under

set_option maxRecDepth 100000 in
set_option maxHeartbeats 16000000 in
theorem spec (s : ByteArray) (b0 o0 n c : Nat) (l : List Rec) (w : World) (hs : Sr w w.heap.size (some ⟨b0, o0, none⟩) n l) (hn : n ≤ 400000000) (hm : s.size ≤ 400000000) (hz : ∀ r ∈ l, Mod r) (hk : 0 < n) :
    Calls Tryd.prog 53 #[.agg #[.string s, .slice (some ⟨b0, o0, none⟩) n c], .int .i64 0] w fun e w' => e = .returned (.bool (dec (Ps s l (0)))) ∧ Below w.heap.size w w' := by
  have mixed : Tryd.prog.follows .mixedOrders = true := by kernel_rfl
  have HS := Lib.hid hs
  have HZ : Hid (∀ r ∈ l, r.name.size ≤ 400000000) := fun r hr => (hz r hr).1
  obtain ⟨b, off, hA, hbB, hcs⟩ := hs.2 (by omega)
  obtain ⟨rfl, rfl⟩ : b0 = b ∧ o0 = off := by simp at hA; exact hA
  clear hA
  have hkl : 0 < l.length := by rw [hs.1]; exact hk
  obtain ⟨e0, e1, e2, e3, e4, e5⟩ : Ce w b0 (o0 + 0) l[0] := by have := hcs 0 hkl; rwa [Nat.zero_mul] at this
  have HMR := Lib.hid (hz _ (List.getElem_mem hkl))
  have HM := Lib.hid HMR.out.1
  have HAT := Lib.hid (at0_get hkl)
  have HP0 := Lib.hid (pc_none (s := s) hkl)
  have HP1 : Hid (∀ x, co l[0].name (uq (cn s l)) = some x → (Pc s l (0) ↔ (l[0].ty ≠ 1 → (l[0].name = x ∧ l[0].ty = 2)))) := fun x => pc_some hkl
  have HPS0 : Hid (Ps s l (0) ↔ (rok l[0] = true ∧ Un l[0].name s = true) ∧ Po l (0) ∧ (¬ (l[0].ty = 6 ∧ l[0].name ≠ s) ∧ ¬ (l[0].ty = 5 ∧ l[0].name = s)) ∧ Alln l.length (Pk l (0)) ∧ Pc s l (0)) := show _ ↔ _ by rw [Ps, Pu, at0_get hkl]
  clear hcs hs hz
  generalize l[0] = r at *
  have RO := Lib.hid (fun W => RecOk.spec r W HMR.out)
  have US := Lib.hid (fun W => Under.spec r.name s W HM.out hm)
  have Z0 := Lib.hid ((zx_new w 26 s (.slice (some ⟨b0, o0, none⟩) n c)).alloc (.cells #[.string r.name, .int .i64 r.ty, .int .i64 r.ttl, .int .i64 r.n, .string r.host, .string r.text] 39))
  have R0 := Lib.hid (bx_new (w.alloc (.cells #[.string s, .slice (some ⟨b0, o0, none⟩) n c] 26)) 39 r)
  have L0 := Lib.hid (((Below.refl w.heap.size w).alloc (Nat.le_refl _) (.cells #[.string s, .slice (some ⟨b0, o0, none⟩) n c] 26)).alloc (by simp) (.cells #[.string r.name, .int .i64 r.ty, .int .i64 r.ttl, .int .i64 r.n, .string r.host, .string r.text] 39))
  rw [show (w.alloc (.cells #[.string s, .slice (some ⟨b0, o0, none⟩) n c] 26)).heap.size = w.heap.size + 1 by simp] at R0
  rw [Nat.add_zero] at e0 e1 e2 e3 e4 e5
  go_enter Tryd.func53, Tryd.ntmps53
  cases hro : rok r with
  | false =>
    have HF := Lib.hid (dec_false (fun h => by have := (HPS0.out.1 h).1.1; rw [hro] at this; cases this))
    rw [hro] at RO
    clear hro
    go_wp2_with fail
    refine (RO.out _).mono ?_
    rintro e w1 ⟨rfl, hl⟩
    have L1 := Lib.hid (L0.out.trans (hl.mono L0.out.size))
    clear hl RO
    go_wp2
    go_ret
    exact ⟨congrArg (fun b => Ending.returned (Value.bool b)) HF.out.symm, L1.out⟩
  | true =>
    rw [hro] at RO
    go_wp2_with fail
    refine (RO.out _).mono ?_
    rintro e w1 ⟨rfl, hl⟩
    have L1 := Lib.hid (L0.out.trans (hl.mono L0.out.size))
    have Z1 := Lib.hid (Z0.out.below hl)
    have R1 := Lib.hid (R0.out.below hl)
    clear hl RO L0 Z0 R0
    obtain ⟨z0, z1⟩ := Z1.out
    obtain ⟨x0, x1, x2, x3, x4, x5⟩ := R1.out
    cases hun : Un r.name s with
    | false =>
      have HF := Lib.hid (dec_false (fun h => by have := (HPS0.out.1 h).1.2; rw [hun] at this; cases this))
      rw [hun] at US
      clear hun hro
      go_wp2_with fail
      refine (US.out _).mono ?_
      rintro e w2 ⟨rfl, hl⟩
      have L2 := Lib.hid (L1.out.trans (hl.mono L1.out.size))
      clear hl US
      go_wp2
      go_ret
      exact ⟨congrArg (fun b => Ending.returned (Value.bool b)) HF.out.symm, L2.out⟩
    | true =>
      have HPS1 : Hid (Ps s l 0 ↔ Po l 0 ∧ (¬ (r.ty = 6 ∧ r.name ≠ s) ∧ ¬ (r.ty = 5 ∧ r.name = s)) ∧ Alln l.length (Pk l 0) ∧ Pc s l 0) := ⟨fun h => (HPS0.out.1 h).2, fun h => HPS0.out.2 ⟨⟨hro, hun⟩, h⟩⟩
      rw [hun] at US
      clear hun hro HPS0
      go_wp2_with fail
      refine (US.out _).mono ?_
      rintro e w2 ⟨rfl, hl⟩
      have L2 := Lib.hid (L1.out.trans (hl.mono L1.out.size))
      have Z2 := Lib.hid (Z1.out.below hl)
      have R2 := Lib.hid (R1.out.below hl)
      clear hl US L1 Z1 R1 z0 z1 x0 x1 x2 x3 x4 x5 e0 e1 e2 e3 e4 e5
      have HPS : Hid (Ps s l 0 ↔ (¬ (r.ty = 6 ∧ r.name ≠ s) ∧ ¬ (r.ty = 5 ∧ r.name = s)) ∧ Alln l.length (Pk l 0) ∧ Pc s l 0) := ⟨fun h => (HPS1.out.1 h).2, fun h => HPS1.out.2 ⟨Or.inl rfl, h⟩⟩
      clear HPS1
      have Z5 := Lib.hid Z2.out
      have R5 := Lib.hid R2.out
      have L5 := Lib.hid L2.out
      clear Z2 R2 L2
      have NOT : Hid (Ps s l 0 → Pc s l 0) := fun h => (HPS.out.1 h).2.2
      have NPK : Hid (Ps s l 0 → Alln l.length (Pk l 0)) := fun h => (HPS.out.1 h).2.1
      obtain ⟨z0, z1⟩ := Z5.out
      obtain ⟨x0, x1, x2, x3, x4, x5⟩ := R5.out
      by_cases h6 : r.ty = 6
      · have t6 : (r.ty == 6) = true := by simpa using h6
        by_cases hns : r.name = s
        · have PRE : Hid (Alln l.length (Pk l 0) → Pc s l 0 → Ps s l 0) := fun h1 h2 => HPS.out.2 ⟨⟨fun h => h.2 hns, fun h => by rw [h6] at h; omega⟩, h1, h2⟩
          have T5 : Hid (¬ r.ty = 5) := show ¬ _ from fun h => by omega
          have t5 : (r.ty == 5) = false := by simpa using T5.out
          have n1 : (r.name.toList == s.toList) = true := by rw [hns]; simp
          have n2 : (r.name.data.toList == s.data.toList) = true := by rw [hns]; simp
          clear h6 hns
          go_wp2
          clear z0 z1 x0 x1 x2 x3 x4 x5 t6 t5 n1 n2
          go_loopw [7] (fun i wr => ∃ j : Nat, j ≤ n ∧ i = .int .i64 j ∧ Hid (Alln j (Pk l 0)) ∧ Hid (Zx wr w.heap.size s (.slice (some ⟨b0, o0, none⟩) n c)) ∧ Hid (Bx wr (w.heap.size + 1) r) ∧ Hid (Below w.heap.size w wr)) (fun i _ => n - (intOf i).toNat)
          case atStart => exact ⟨0, Nat.zero_le _, rfl, alln_zero, Z5.out, R5.out, L5.out⟩
          case round =>
            clear Z5 R5 L5
            obtain ⟨j, hj, rfl, HQ, HX9, HR9, HL9⟩ := hrel
            by_cases hlt2 : j < n
            · obtain ⟨b, off, hA, hbB, hcs⟩ := HS.out.2 (by omega)
              obtain ⟨rfl, rfl⟩ : b0 = b ∧ o0 = off := by simp at hA; exact hA
              clear hA
              have hjl : j < l.length := by rw [HS.out.1]; exact hlt2
              have hv := ((hcs j hjl).below HL9.out hbB).1
              clear hcs
              have HPJ : Hid (Pk l 0 j ↔ ¬ (r.ty = 5 ∧ j ≠ 0 ∧ l[j].name = r.name)) := show _ ↔ _ by rw [Pk, HAT.out, at0_get hjl]
              generalize l[j].name = y at *
              obtain ⟨z0, z1⟩ := HX9.out
              obtain ⟨x0, x1, x2, x3, x4, x5⟩ := HR9.out
              have HN := Lib.hid (alln_next HQ.out (HPJ.out.2 (fun h => T5.out h.1)))
              have t5 : (r.ty == 5) = false := by simpa using T5.out
              go_wp2
              go_quiet (fail)
              have L9 : Hid (Below w.heap.size w (wr.drewN nq)) := HL9.out.trans (drewN_below _ _ _)
              have X9 : Hid (Zx (wr.drewN nq) w.heap.size s (.slice (some ⟨b0, o0, none⟩) n c)) := HX9.out
              have R9 : Hid (Bx (wr.drewN nq) (w.heap.size + 1) r) := HR9.out
              clear x0 x1 x2 x3 x4 x5 z0 z1 hv HX9 HR9 HL9
              generalize wr.drewN nq = w9 at *
              go_wp2
              go_roundw
              case rel => exact ⟨j + 1, by omega, by go_num, HN.out, X9.out, R9.out, L9.out⟩
              case measure => simp [intOf]; omega
            · obtain rfl : n = j := by omega
              have HPK : Hid (Alln l.length (Pk l 0)) := show Alln _ _ by rw [HS.out.1]; exact HQ.out
              have CO := Lib.hid (fun W (hW : Below w.heap.size w W) => CutOfS.spec s r.name b0 o0 n c l W (HS.out.on hW) hn hm HM.out HZ.out)
              obtain ⟨z0, z1⟩ := HX9.out
              obtain ⟨x0, x1, x2, x3, x4, x5⟩ := HR9.out
              cases hco : co r.name (uq (cn s l)) with
              | none =>
                have HF := Lib.hid (dec_true (PRE.out HPK.out (HP0.out hco)))
                rw [hco] at CO
                clear hco
                go_wp2_with fail
                refine (CO.out _ HL9.out).mono ?_
                rintro e w7 ⟨rfl, hl⟩
                have L7 := Lib.hid (HL9.out.trans (hl.mono HL9.out.size))
                clear hl CO z0 z1 x0 x1 x2 x3 x4 x5
                unfold cv
                go_wp2
                go_ret
                exact ⟨congrArg (fun b => Ending.returned (Value.bool b)) HF.out.symm, L7.out⟩
              | some x =>
                have HP := Lib.hid (HP1.out x hco)
                rw [hco] at CO
                clear hco
                go_wp2_with fail
                refine (CO.out _ HL9.out).mono ?_
                rintro e w7 ⟨rfl, hl⟩
                have L7 := Lib.hid (HL9.out.trans (hl.mono HL9.out.size))
                have R7 := Lib.hid (HR9.out.below hl)
                clear hl CO z0 z1 x0 x1 x2 x3 x4 x5
                obtain ⟨x0, x1, x2, x3, x4, x5⟩ := R7.out
                unfold cv
                by_cases h1 : r.ty = 1
                · have HF := Lib.hid (dec_true (PRE.out HPK.out (HP.out.2 (fun h => absurd h1 h))))
                  have t1 : (r.ty == 1) = true := by simpa using h1
                  clear h1
                  go_wp2
                  go_ret
                  exact ⟨congrArg (fun b => Ending.returned (Value.bool b)) HF.out.symm, L7.out⟩
                have t1 : (r.ty == 1) = false := by simpa using h1
                by_cases h2 : r.ty = 2
                · have t2 : (r.ty == 2) = true := by simpa using h2
                  by_cases h3 : r.name = x
                  · have HF := Lib.hid (dec_true (PRE.out HPK.out (HP.out.2 (fun _ => ⟨h3, h2⟩))))
                    have n1 : (r.name.toList == x.toList) = true := by rw [h3]; simp
                    have n2 : (r.name.data.toList == x.data.toList) = true := by rw [h3]; simp
                    clear h1 h2 h3
                    go_wp2
                    go_ret
                    exact ⟨congrArg (fun b => Ending.returned (Value.bool b)) HF.out.symm, L7.out⟩
                  · have HF := Lib.hid (dec_false (fun h => h3 (HP.out.1 (NOT.out h) h1).1))
                    have n1 : (r.name.toList == x.toList) = false := text_ne h3
                    have n2 : (r.name.data.toList == x.data.toList) = false := text_ne2 h3
                    clear h1 h2 h3
                    go_wp2
                    go_ret
                    exact ⟨congrArg (fun b => Ending.returned (Value.bool b)) HF.out.symm, L7.out⟩
                · have HF := Lib.hid (dec_false (fun h => h2 (HP.out.1 (NOT.out h) h1).2))
                  have t2 : (r.ty == 2) = false := by simpa using h2
                  clear h1 h2
                  go_wp2
                  go_ret
                  exact ⟨congrArg (fun b => Ending.returned (Value.bool b)) HF.out.symm, L7.out⟩
        · have HF := Lib.hid (dec_false (fun h => (HPS.out.1 h).1.1 ⟨h6, hns⟩))
          have n1 : (r.name.toList == s.toList) = false := text_ne hns
          have n2 : (r.name.data.toList == s.data.toList) = false := text_ne2 hns
          clear h6 hns
          go_wp2
          go_ret
          exact ⟨congrArg (fun b => Ending.returned (Value.bool b)) HF.out.symm, L5.out⟩
      have t6 : (r.ty == 6) = false := by simpa using h6
      by_cases h5 : r.ty = 5
      · have t5 : (r.ty == 5) = true := by simpa using h5
        by_cases hns : r.name = s
        · have HF := Lib.hid (dec_false (fun h => (HPS.out.1 h).1.2 ⟨h5, hns⟩))
          have n1 : (r.name.toList == s.toList) = true := by rw [hns]; simp
          have n2 : (r.name.data.toList == s.data.toList) = true := by rw [hns]; simp
          clear h6 h5 hns
          go_wp2
          go_ret
          exact ⟨congrArg (fun b => Ending.returned (Value.bool b)) HF.out.symm, L5.out⟩
        · have PRE : Hid (Alln l.length (Pk l 0) → Pc s l 0 → Ps s l 0) := fun h1 h2 => HPS.out.2 ⟨⟨fun h => h6 h.1, fun h => hns h.2⟩, h1, h2⟩
          have T5 : Hid (r.ty = 5) := h5
          have n1 : (r.name.toList == s.toList) = false := text_ne hns
          have n2 : (r.name.data.toList == s.data.toList) = false := text_ne2 hns
          clear h6 h5 hns
          go_wp2
          clear z0 z1 x0 x1 x2 x3 x4 x5 t6 t5 n1 n2
          go_loopw [7] (fun i wr => ∃ j : Nat, j ≤ n ∧ i = .int .i64 j ∧ Hid (Alln j (Pk l 0)) ∧ Hid (Zx wr w.heap.size s (.slice (some ⟨b0, o0, none⟩) n c)) ∧ Hid (Bx wr (w.heap.size + 1) r) ∧ Hid (Below w.heap.size w wr)) (fun i _ => n - (intOf i).toNat)
          case atStart => exact ⟨0, Nat.zero_le _, rfl, alln_zero, Z5.out, R5.out, L5.out⟩
          case round =>
            clear Z5 R5 L5
            obtain ⟨j, hj, rfl, HQ, HX9, HR9, HL9⟩ := hrel
            by_cases hlt2 : j < n
            · obtain ⟨b, off, hA, hbB, hcs⟩ := HS.out.2 (by omega)
              obtain ⟨rfl, rfl⟩ : b0 = b ∧ o0 = off := by simp at hA; exact hA
              clear hA
              have hjl : j < l.length := by rw [HS.out.1]; exact hlt2
              have hv := ((hcs j hjl).below HL9.out hbB).1
              clear hcs
              have HPJ : Hid (Pk l 0 j ↔ ¬ (r.ty = 5 ∧ j ≠ 0 ∧ l[j].name = r.name)) := show _ ↔ _ by rw [Pk, HAT.out, at0_get hjl]
              generalize l[j].name = y at *
              obtain ⟨z0, z1⟩ := HX9.out
              obtain ⟨x0, x1, x2, x3, x4, x5⟩ := HR9.out
              have t5 : (r.ty == 5) = true := by simpa using T5.out
              by_cases hjk : j = 0
              · have HN := Lib.hid (alln_next HQ.out (HPJ.out.2 (fun h => h.2.1 hjk)))
                have m0 : ((j : Int) != 0) = false := by rw [hjk]; simp
                clear hjk
                go_wp2
                go_quiet (fail)
                have L9 : Hid (Below w.heap.size w (wr.drewN nq)) := HL9.out.trans (drewN_below _ _ _)
                have X9 : Hid (Zx (wr.drewN nq) w.heap.size s (.slice (some ⟨b0, o0, none⟩) n c)) := HX9.out
                have R9 : Hid (Bx (wr.drewN nq) (w.heap.size + 1) r) := HR9.out
                clear x0 x1 x2 x3 x4 x5 z0 z1 hv HX9 HR9 HL9
                generalize wr.drewN nq = w9 at *
                go_wp2
                go_roundw
                case rel => exact ⟨j + 1, by omega, by go_num, HN.out, X9.out, R9.out, L9.out⟩
                case measure => simp [intOf]; omega
              have m0 : ((j : Int) != 0) = true := by simp; omega
              by_cases hny : y = r.name
              · have HF := Lib.hid (dec_false (fun h => HPJ.out.1 (NPK.out h j hjl) ⟨T5.out, hjk, hny⟩))
                have n1 : (y.toList == r.name.toList) = true := by rw [hny]; simp
                have n2 : (y.data.toList == r.name.data.toList) = true := by rw [hny]; simp
                clear hjk hny
                go_wp2
                go_quiet (fail)
                have L9 : Hid (Below w.heap.size w (wr.drewN nq)) := HL9.out.trans (drewN_below _ _ _)
                have X9 : Hid (Zx (wr.drewN nq) w.heap.size s (.slice (some ⟨b0, o0, none⟩) n c)) := HX9.out
                have R9 : Hid (Bx (wr.drewN nq) (w.heap.size + 1) r) := HR9.out
                clear x0 x1 x2 x3 x4 x5 z0 z1 hv HX9 HR9 HL9
                generalize wr.drewN nq = w9 at *
                go_wp2
                go_ret
                exact ⟨congrArg (fun b => Ending.returned (Value.bool b)) HF.out.symm, L9.out⟩
              · have HN := Lib.hid (alln_next HQ.out (HPJ.out.2 (fun h => hny h.2.2)))
                have n1 : (y.toList == r.name.toList) = false := text_ne hny
                have n2 : (y.data.toList == r.name.data.toList) = false := text_ne2 hny
                clear hjk hny
                go_wp2
                go_quiet (fail)
                have L9 : Hid (Below w.heap.size w (wr.drewN nq)) := HL9.out.trans (drewN_below _ _ _)
                have X9 : Hid (Zx (wr.drewN nq) w.heap.size s (.slice (some ⟨b0, o0, none⟩) n c)) := HX9.out
                have R9 : Hid (Bx (wr.drewN nq) (w.heap.size + 1) r) := HR9.out
                clear x0 x1 x2 x3 x4 x5 z0 z1 hv HX9 HR9 HL9
                generalize wr.drewN nq = w9 at *
                go_wp2
                go_roundw
                case rel => exact ⟨j + 1, by omega, by go_num, HN.out, X9.out, R9.out, L9.out⟩
                case measure => simp [intOf]; omega
            · obtain rfl : n = j := by omega
              have HPK : Hid (Alln l.length (Pk l 0)) := show Alln _ _ by rw [HS.out.1]; exact HQ.out
              have CO := Lib.hid (fun W (hW : Below w.heap.size w W) => CutOfS.spec s r.name b0 o0 n c l W (HS.out.on hW) hn hm HM.out HZ.out)
              obtain ⟨z0, z1⟩ := HX9.out
              obtain ⟨x0, x1, x2, x3, x4, x5⟩ := HR9.out
              cases hco : co r.name (uq (cn s l)) with
              | none =>
                have HF := Lib.hid (dec_true (PRE.out HPK.out (HP0.out hco)))
                rw [hco] at CO
                clear hco
                go_wp2_with fail
                refine (CO.out _ HL9.out).mono ?_
                rintro e w7 ⟨rfl, hl⟩
                have L7 := Lib.hid (HL9.out.trans (hl.mono HL9.out.size))
                clear hl CO z0 z1 x0 x1 x2 x3 x4 x5
                unfold cv
                go_wp2
                go_ret
                exact ⟨congrArg (fun b => Ending.returned (Value.bool b)) HF.out.symm, L7.out⟩
              | some x =>
                have HP := Lib.hid (HP1.out x hco)
                rw [hco] at CO
                clear hco
                go_wp2_with fail
                refine (CO.out _ HL9.out).mono ?_
                rintro e w7 ⟨rfl, hl⟩
                have L7 := Lib.hid (HL9.out.trans (hl.mono HL9.out.size))
                have R7 := Lib.hid (HR9.out.below hl)
                clear hl CO z0 z1 x0 x1 x2 x3 x4 x5
                obtain ⟨x0, x1, x2, x3, x4, x5⟩ := R7.out
                unfold cv
                by_cases h1 : r.ty = 1
                · have HF := Lib.hid (dec_true (PRE.out HPK.out (HP.out.2 (fun h => absurd h1 h))))
                  have t1 : (r.ty == 1) = true := by simpa using h1
                  clear h1
                  go_wp2
                  go_ret
                  exact ⟨congrArg (fun b => Ending.returned (Value.bool b)) HF.out.symm, L7.out⟩
                have t1 : (r.ty == 1) = false := by simpa using h1
                by_cases h2 : r.ty = 2
                · have t2 : (r.ty == 2) = true := by simpa using h2
                  by_cases h3 : r.name = x
                  · have HF := Lib.hid (dec_true (PRE.out HPK.out (HP.out.2 (fun _ => ⟨h3, h2⟩))))
                    have n1 : (r.name.toList == x.toList) = true := by rw [h3]; simp
                    have n2 : (r.name.data.toList == x.data.toList) = true := by rw [h3]; simp
                    clear h1 h2 h3
                    go_wp2
                    go_ret
                    exact ⟨congrArg (fun b => Ending.returned (Value.bool b)) HF.out.symm, L7.out⟩
                  · have HF := Lib.hid (dec_false (fun h => h3 (HP.out.1 (NOT.out h) h1).1))
                    have n1 : (r.name.toList == x.toList) = false := text_ne h3
                    have n2 : (r.name.data.toList == x.data.toList) = false := text_ne2 h3
                    clear h1 h2 h3
                    go_wp2
                    go_ret
                    exact ⟨congrArg (fun b => Ending.returned (Value.bool b)) HF.out.symm, L7.out⟩
                · have HF := Lib.hid (dec_false (fun h => h2 (HP.out.1 (NOT.out h) h1).2))
                  have t2 : (r.ty == 2) = false := by simpa using h2
                  clear h1 h2
                  go_wp2
                  go_ret
                  exact ⟨congrArg (fun b => Ending.returned (Value.bool b)) HF.out.symm, L7.out⟩
      · have PRE : Hid (Alln l.length (Pk l 0) → Pc s l 0 → Ps s l 0) := fun h1 h2 => HPS.out.2 ⟨⟨fun h => h6 h.1, fun h => h5 h.1⟩, h1, h2⟩
        have T5 : Hid (¬ r.ty = 5) := h5
        have t5 : (r.ty == 5) = false := by simpa using h5
        clear h6 h5
        go_wp2
        clear z0 z1 x0 x1 x2 x3 x4 x5 t6 t5
        go_loopw [7] (fun i wr => ∃ j : Nat, j ≤ n ∧ i = .int .i64 j ∧ Hid (Alln j (Pk l 0)) ∧ Hid (Zx wr w.heap.size s (.slice (some ⟨b0, o0, none⟩) n c)) ∧ Hid (Bx wr (w.heap.size + 1) r) ∧ Hid (Below w.heap.size w wr)) (fun i _ => n - (intOf i).toNat)
        case atStart => exact ⟨0, Nat.zero_le _, rfl, alln_zero, Z5.out, R5.out, L5.out⟩
        case round =>
          clear Z5 R5 L5
          obtain ⟨j, hj, rfl, HQ, HX9, HR9, HL9⟩ := hrel
          by_cases hlt2 : j < n
          · obtain ⟨b, off, hA, hbB, hcs⟩ := HS.out.2 (by omega)
            obtain ⟨rfl, rfl⟩ : b0 = b ∧ o0 = off := by simp at hA; exact hA
            clear hA
            have hjl : j < l.length := by rw [HS.out.1]; exact hlt2
            have hv := ((hcs j hjl).below HL9.out hbB).1
            clear hcs
            have HPJ : Hid (Pk l 0 j ↔ ¬ (r.ty = 5 ∧ j ≠ 0 ∧ l[j].name = r.name)) := show _ ↔ _ by rw [Pk, HAT.out, at0_get hjl]
            generalize l[j].name = y at *
            obtain ⟨z0, z1⟩ := HX9.out
            obtain ⟨x0, x1, x2, x3, x4, x5⟩ := HR9.out
            have HN := Lib.hid (alln_next HQ.out (HPJ.out.2 (fun h => T5.out h.1)))
            have t5 : (r.ty == 5) = false := by simpa using T5.out
            go_wp2
            go_quiet (fail)
            have L9 : Hid (Below w.heap.size w (wr.drewN nq)) := HL9.out.trans (drewN_below _ _ _)
            have X9 : Hid (Zx (wr.drewN nq) w.heap.size s (.slice (some ⟨b0, o0, none⟩) n c)) := HX9.out
            have R9 : Hid (Bx (wr.drewN nq) (w.heap.size + 1) r) := HR9.out
            clear x0 x1 x2 x3 x4 x5 z0 z1 hv HX9 HR9 HL9
            generalize wr.drewN nq = w9 at *
            go_wp2
            go_roundw
            case rel => exact ⟨j + 1, by omega, by go_num, HN.out, X9.out, R9.out, L9.out⟩
            case measure => simp [intOf]; omega
          · obtain rfl : n = j := by omega
            have HPK : Hid (Alln l.length (Pk l 0)) := show Alln _ _ by rw [HS.out.1]; exact HQ.out
            have CO := Lib.hid (fun W (hW : Below w.heap.size w W) => CutOfS.spec s r.name b0 o0 n c l W (HS.out.on hW) hn hm HM.out HZ.out)
            obtain ⟨z0, z1⟩ := HX9.out
            obtain ⟨x0, x1, x2, x3, x4, x5⟩ := HR9.out
            cases hco : co r.name (uq (cn s l)) with
            | none =>
              have HF := Lib.hid (dec_true (PRE.out HPK.out (HP0.out hco)))
              rw [hco] at CO
              clear hco
              go_wp2_with fail
              refine (CO.out _ HL9.out).mono ?_
              rintro e w7 ⟨rfl, hl⟩
              have L7 := Lib.hid (HL9.out.trans (hl.mono HL9.out.size))
              clear hl CO z0 z1 x0 x1 x2 x3 x4 x5
              unfold cv
              go_wp2
              go_ret
              exact ⟨congrArg (fun b => Ending.returned (Value.bool b)) HF.out.symm, L7.out⟩
            | some x =>
              have HP := Lib.hid (HP1.out x hco)
              rw [hco] at CO
              clear hco
              go_wp2_with fail
              refine (CO.out _ HL9.out).mono ?_
              rintro e w7 ⟨rfl, hl⟩
              have L7 := Lib.hid (HL9.out.trans (hl.mono HL9.out.size))
              have R7 := Lib.hid (HR9.out.below hl)
              clear hl CO z0 z1 x0 x1 x2 x3 x4 x5
              obtain ⟨x0, x1, x2, x3, x4, x5⟩ := R7.out
              unfold cv
              by_cases h1 : r.ty = 1
              · have HF := Lib.hid (dec_true (PRE.out HPK.out (HP.out.2 (fun h => absurd h1 h))))
                have t1 : (r.ty == 1) = true := by simpa using h1
                clear h1
                go_wp2
                go_ret
                exact ⟨congrArg (fun b => Ending.returned (Value.bool b)) HF.out.symm, L7.out⟩
              have t1 : (r.ty == 1) = false := by simpa using h1
              by_cases h2 : r.ty = 2
              · have t2 : (r.ty == 2) = true := by simpa using h2
                by_cases h3 : r.name = x
                · have HF := Lib.hid (dec_true (PRE.out HPK.out (HP.out.2 (fun _ => ⟨h3, h2⟩))))
                  have n1 : (r.name.toList == x.toList) = true := by rw [h3]; simp
                  have n2 : (r.name.data.toList == x.data.toList) = true := by rw [h3]; simp
                  clear h1 h2 h3
                  go_wp2
                  go_ret
                  exact ⟨congrArg (fun b => Ending.returned (Value.bool b)) HF.out.symm, L7.out⟩
                · have HF := Lib.hid (dec_false (fun h => h3 (HP.out.1 (NOT.out h) h1).1))
                  have n1 : (r.name.toList == x.toList) = false := text_ne h3
                  have n2 : (r.name.data.toList == x.data.toList) = false := text_ne2 h3
                  clear h1 h2 h3
                  go_wp2
                  go_ret
                  exact ⟨congrArg (fun b => Ending.returned (Value.bool b)) HF.out.symm, L7.out⟩
              · have HF := Lib.hid (dec_false (fun h => h2 (HP.out.1 (NOT.out h) h1).2))
                have t2 : (r.ty == 2) = false := by simpa using h2
                clear h1 h2
                go_wp2
                go_ret
                exact ⟨congrArg (fun b => Ending.returned (Value.bool b)) HF.out.symm, L7.out⟩

end Go.Proofs.YtkpcanigdppegaaDoor.RecZ0

/- What l10Record does in the model at any record but the first. Condition: fewer than 400000001 records, of at most 400000000 bytes a text. -/
namespace Go.Proofs.YtkpcanigdppegaaDoor.RecZ1
open Go.RowKit Go.Proofs.YtkpcanigdppegaaDoor.Mem Go.Proofs.YtkpcanigdppegaaDoor.MemR Go.Proofs.YtkpcanigdppegaaDoor.SetMath Go.Proofs.YtkpcanigdppegaaDoor.NameMath Go.Proofs.YtkpcanigdppegaaDoor.NameOk Go.Proofs.YtkpcanigdppegaaDoor.ZoneMath Go.Proofs.YtkpcanigdppegaaDoor.MemZ Go.Proofs.YtkpcanigdppegaaDoor.RecOk Go.Proofs.YtkpcanigdppegaaDoor.LessR Go.Proofs.YtkpcanigdppegaaDoor.ZokMath Go.Proofs.YtkpcanigdppegaaDoor.Labels Go.Proofs.YtkpcanigdppegaaDoor.BoxR Go.Proofs.YtkpcanigdppegaaDoor.AliI Go.Proofs.YtkpcanigdppegaaDoor.CutI Go.Proofs.YtkpcanigdppegaaDoor.Under

set_option maxRecDepth 100000 in
set_option maxHeartbeats 16000000 in
theorem spec (s : ByteArray) (b0 o0 n c : Nat) (l : List Rec) (w : World) (hs : Sr w w.heap.size (some ⟨b0, o0, none⟩) n l) (hn : n ≤ 400000000) (hm : s.size ≤ 400000000) (hz : ∀ r ∈ l, Mod r) (q : Nat) (hk : q + 1 < n) :
    Calls Tryd.prog 53 #[.agg #[.string s, .slice (some ⟨b0, o0, none⟩) n c], .int .i64 ((q : Int) + 1)] w fun e w' => e = .returned (.bool (dec (Ps s l (q + 1)))) ∧ Below w.heap.size w w' := by
  have mixed : Tryd.prog.follows .mixedOrders = true := by kernel_rfl
  have HS := Lib.hid hs
  have HZ : Hid (∀ r ∈ l, r.name.size ≤ 400000000) := fun r hr => (hz r hr).1
  obtain ⟨b, off, hA, hbB, hcs⟩ := hs.2 (by omega)
  obtain ⟨rfl, rfl⟩ : b0 = b ∧ o0 = off := by simp at hA; exact hA
  clear hA
  have hkl : q + 1 < l.length := by rw [hs.1]; exact hk
  have hql : q < l.length := by omega
  obtain ⟨e0, e1, e2, e3, e4, e5⟩ := hcs (q + 1) hkl
  obtain ⟨p0, p1, p2, p3, p4, p5⟩ := hcs q hql
  have HMP := Lib.hid (hz _ (List.getElem_mem hql))
  have HPO : Hid (Po l (q + 1) ↔ (lr l[q] l[q + 1] = true ∧ ¬ (l[q].name = l[q + 1].name ∧ l[q].ty = l[q + 1].ty ∧ l[q].ttl ≠ l[q + 1].ttl))) := show _ ↔ _ by
    rw [Po, Nat.add_sub_cancel, at0_get hql, at0_get hkl]
    exact ⟨fun h => h.elim (fun h => absurd h (by omega)) id, Or.inr⟩
  have HMR := Lib.hid (hz _ (List.getElem_mem hkl))
  have HM := Lib.hid HMR.out.1
  have HAT := Lib.hid (at0_get hkl)
  have HP0 := Lib.hid (pc_none (s := s) hkl)
  have HP1 : Hid (∀ x, co l[q + 1].name (uq (cn s l)) = some x → (Pc s l (q + 1) ↔ (l[q + 1].ty ≠ 1 → (l[q + 1].name = x ∧ l[q + 1].ty = 2)))) := fun x => pc_some hkl
  have HPS0 : Hid (Ps s l (q + 1) ↔ (rok l[q + 1] = true ∧ Un l[q + 1].name s = true) ∧ Po l (q + 1) ∧ (¬ (l[q + 1].ty = 6 ∧ l[q + 1].name ≠ s) ∧ ¬ (l[q + 1].ty = 5 ∧ l[q + 1].name = s)) ∧ Alln l.length (Pk l (q + 1)) ∧ Pc s l (q + 1)) := show _ ↔ _ by rw [Ps, Pu, at0_get hkl]
  clear hcs hs hz
  generalize l[q] = p at *
  generalize l[q + 1] = r at *
  have RO := Lib.hid (fun W => RecOk.spec r W HMR.out)
  have US := Lib.hid (fun W => Under.spec r.name s W HM.out hm)
  have Z0 := Lib.hid ((zx_new w 26 s (.slice (some ⟨b0, o0, none⟩) n c)).alloc (.cells #[.string r.name, .int .i64 r.ty, .int .i64 r.ttl, .int .i64 r.n, .string r.host, .string r.text] 39))
  have R0 := Lib.hid (bx_new (w.alloc (.cells #[.string s, .slice (some ⟨b0, o0, none⟩) n c] 26)) 39 r)
  have L0 := Lib.hid (((Below.refl w.heap.size w).alloc (Nat.le_refl _) (.cells #[.string s, .slice (some ⟨b0, o0, none⟩) n c] 26)).alloc (by simp) (.cells #[.string r.name, .int .i64 r.ty, .int .i64 r.ttl, .int .i64 r.n, .string r.host, .string r.text] 39))
  rw [show (w.alloc (.cells #[.string s, .slice (some ⟨b0, o0, none⟩) n c] 26)).heap.size = w.heap.size + 1 by simp] at R0
  have i1 : (0 : Int) < (q : Int) + 1 := by omega
  have i2 : (q : Int) + 1 - 1 = (q : Int) := by omega
  have i3 : (q : Int) < (n : Int) := by omega
  have i4 : IntKind.i64.wrap (q : Int) = (q : Int) := IntWalk.i64_in _ (by omega)
  have i5 : (q : Int) + 1 < (n : Int) := by omega
  go_enter Tryd.func53, Tryd.ntmps53
  cases hro : rok r with
  | false =>
    have HF := Lib.hid (dec_false (fun h => by have := (HPS0.out.1 h).1.1; rw [hro] at this; cases this))
    rw [hro] at RO
    clear hro
    go_wp2_with fail
    refine (RO.out _).mono ?_
    rintro e w1 ⟨rfl, hl⟩
    have L1 := Lib.hid (L0.out.trans (hl.mono L0.out.size))
    clear hl RO
    go_wp2
    go_ret
    exact ⟨congrArg (fun b => Ending.returned (Value.bool b)) HF.out.symm, L1.out⟩
  | true =>
    rw [hro] at RO
    go_wp2_with fail
    refine (RO.out _).mono ?_
    rintro e w1 ⟨rfl, hl⟩
    have L1 := Lib.hid (L0.out.trans (hl.mono L0.out.size))
    have Z1 := Lib.hid (Z0.out.below hl)
    have R1 := Lib.hid (R0.out.below hl)
    clear hl RO L0 Z0 R0
    obtain ⟨z0, z1⟩ := Z1.out
    obtain ⟨x0, x1, x2, x3, x4, x5⟩ := R1.out
    cases hun : Un r.name s with
    | false =>
      have HF := Lib.hid (dec_false (fun h => by have := (HPS0.out.1 h).1.2; rw [hun] at this; cases this))
      rw [hun] at US
      clear hun hro
      go_wp2_with fail
      refine (US.out _).mono ?_
      rintro e w2 ⟨rfl, hl⟩
      have L2 := Lib.hid (L1.out.trans (hl.mono L1.out.size))
      clear hl US
      go_wp2
      go_ret
      exact ⟨congrArg (fun b => Ending.returned (Value.bool b)) HF.out.symm, L2.out⟩
    | true =>
      have HPS1 : Hid (Ps s l (q + 1) ↔ Po l (q + 1) ∧ (¬ (r.ty = 6 ∧ r.name ≠ s) ∧ ¬ (r.ty = 5 ∧ r.name = s)) ∧ Alln l.length (Pk l (q + 1)) ∧ Pc s l (q + 1)) := ⟨fun h => (HPS0.out.1 h).2, fun h => HPS0.out.2 ⟨⟨hro, hun⟩, h⟩⟩
      rw [hun] at US
      clear hun hro HPS0
      go_wp2_with fail
      refine (US.out _).mono ?_
      rintro e w2 ⟨rfl, hl⟩
      have L2 := Lib.hid (L1.out.trans (hl.mono L1.out.size))
      have Z2 := Lib.hid (Z1.out.below hl)
      have R2 := Lib.hid (R1.out.below hl)
      clear hl US L1 Z1 R1 z0 z1 x0 x1 x2 x3 x4 x5 e0 e1 e2 e3 e4 e5
      obtain ⟨z0, z1⟩ := Z2.out
      have ltz := Z2.out.lt
      obtain ⟨x0, x1, x2, x3, x4, x5⟩ := R2.out
      have ltr := R2.out.lt
      have q0 := (L2.out.cell (p := ⟨b0, o0 + q * 6, none⟩) hbB).trans p0
      have q1 := (L2.out.cell (p := ⟨b0, o0 + q * 6 + 1, none⟩) hbB).trans p1
      have q2 := (L2.out.cell (p := ⟨b0, o0 + q * 6 + 2, none⟩) hbB).trans p2
      have q3 := (L2.out.cell (p := ⟨b0, o0 + q * 6 + 3, none⟩) hbB).trans p3
      have q4 := (L2.out.cell (p := ⟨b0, o0 + q * 6 + 4, none⟩) hbB).trans p4
      have q5 := (L2.out.cell (p := ⟨b0, o0 + q * 6 + 5, none⟩) hbB).trans p5
      clear p0 p1 p2 p3 p4 p5
      have L3 := Lib.hid (L2.out.alloc L2.out.size (.cells #[.string p.name, .int .i64 p.ty, .int .i64 p.ttl, .int .i64 p.n, .string p.host, .string p.text] 39))
      have Z3 := Lib.hid (Z2.out.alloc (.cells #[.string p.name, .int .i64 p.ty, .int .i64 p.ttl, .int .i64 p.n, .string p.host, .string p.text] 39))
      have R3 := Lib.hid (R2.out.alloc (.cells #[.string p.name, .int .i64 p.ty, .int .i64 p.ttl, .int .i64 p.n, .string p.host, .string p.text] 39))
      have P3 := Lib.hid (bx_new w2 39 p)
      have LR := Lib.hid (fun W => LessR.spec p r W ⟨HMP.out.1, HMP.out.2.1⟩ ⟨HMR.out.1, HMR.out.2.1⟩)
      cases hlr : lr p r with
      | false =>
        have HF := Lib.hid (dec_false (fun h => by have := (HPO.out.1 (HPS1.out.1 h).1).1; rw [hlr] at this; cases this))
        rw [hlr] at LR
        clear hlr
        go_wp2_with fail
        refine (LR.out _).mono ?_
        rintro e w3 ⟨rfl, hl⟩
        have L4 := Lib.hid (L3.out.trans (hl.mono L3.out.size))
        clear hl LR
        go_wp2
        go_ret
        exact ⟨congrArg (fun b => Ending.returned (Value.bool b)) HF.out.symm, L4.out⟩
      | true =>
        rw [hlr] at LR
        go_wp2_with fail
        refine (LR.out _).mono ?_
        rintro e w3 ⟨rfl, hl⟩
        have L5 := Lib.hid (L3.out.trans (hl.mono L3.out.size))
        have Z5 := Lib.hid (Z3.out.below hl)
        have R5 := Lib.hid (R3.out.below hl)
        have P5 := Lib.hid (P3.out.below hl)
        clear hl LR L3 Z3 R3 P3 z0 z1 x0 x1 x2 x3 x4 x5 q0 q1 q2 q3 q4 q5 Z2 R2 L2
        generalize w2.heap.size = gp at *
        obtain ⟨y0, y1, y2, y3, y4, y5⟩ := P5.out
        by_cases hpn : p.name = r.name
        · have n3 : (p.name.toList == r.name.toList) = true := by rw [hpn]; simp
          have n4 : (p.name.data.toList == r.name.data.toList) = true := by rw [hpn]; simp
          by_cases hpt : p.ty = r.ty
          · have t3 : (p.ty == r.ty) = true := by simpa using hpt
            by_cases hpl : p.ttl = r.ttl
            · have t4 : (p.ttl != r.ttl) = false := by simpa using hpl
              have HPS : Hid (Ps s l (q + 1) ↔ (¬ (r.ty = 6 ∧ r.name ≠ s) ∧ ¬ (r.ty = 5 ∧ r.name = s)) ∧ Alln l.length (Pk l (q + 1)) ∧ Pc s l (q + 1)) := ⟨fun h => (HPS1.out.1 h).2, fun h => HPS1.out.2 ⟨HPO.out.2 ⟨hlr, fun g => g.2.2 hpl⟩, h⟩⟩
              clear HPS1 HPO hlr hpn hpt hpl P5
              have NOT : Hid (Ps s l (q + 1) → Pc s l (q + 1)) := fun h => (HPS.out.1 h).2.2
              have NPK : Hid (Ps s l (q + 1) → Alln l.length (Pk l (q + 1))) := fun h => (HPS.out.1 h).2.1
              obtain ⟨z0, z1⟩ := Z5.out
              obtain ⟨x0, x1, x2, x3, x4, x5⟩ := R5.out
              by_cases h6 : r.ty = 6
              · have t6 : (r.ty == 6) = true := by simpa using h6
                by_cases hns : r.name = s
                · have PRE : Hid (Alln l.length (Pk l (q + 1)) → Pc s l (q + 1) → Ps s l (q + 1)) := fun h1 h2 => HPS.out.2 ⟨⟨fun h => h.2 hns, fun h => by rw [h6] at h; omega⟩, h1, h2⟩
                  have T5 : Hid (¬ r.ty = 5) := show ¬ _ from fun h => by omega
                  have t5 : (r.ty == 5) = false := by simpa using T5.out
                  have n1 : (r.name.toList == s.toList) = true := by rw [hns]; simp
                  have n2 : (r.name.data.toList == s.data.toList) = true := by rw [hns]; simp
                  clear h6 hns
                  go_wp2
                  clear n3 n4 t3 t4 y0 y1 y2 y3 y4 y5 z0 z1 x0 x1 x2 x3 x4 x5 t6 t5 n1 n2
                  go_loopw [7] (fun i wr => ∃ j : Nat, j ≤ n ∧ i = .int .i64 j ∧ Hid (Alln j (Pk l (q + 1))) ∧ Hid (Zx wr w.heap.size s (.slice (some ⟨b0, o0, none⟩) n c)) ∧ Hid (Bx wr (w.heap.size + 1) r) ∧ Hid (Below w.heap.size w wr)) (fun i _ => n - (intOf i).toNat)
                  case atStart => exact ⟨0, Nat.zero_le _, rfl, alln_zero, Z5.out, R5.out, L5.out⟩
                  case round =>
                    clear Z5 R5 L5
                    obtain ⟨j, hj, rfl, HQ, HX9, HR9, HL9⟩ := hrel
                    by_cases hlt2 : j < n
                    · obtain ⟨b, off, hA, hbB, hcs⟩ := HS.out.2 (by omega)
                      obtain ⟨rfl, rfl⟩ : b0 = b ∧ o0 = off := by simp at hA; exact hA
                      clear hA
                      have hjl : j < l.length := by rw [HS.out.1]; exact hlt2
                      have hv := ((hcs j hjl).below HL9.out hbB).1
                      clear hcs
                      have HPJ : Hid (Pk l (q + 1) j ↔ ¬ (r.ty = 5 ∧ j ≠ (q + 1) ∧ l[j].name = r.name)) := show _ ↔ _ by rw [Pk, HAT.out, at0_get hjl]
                      generalize l[j].name = y at *
                      obtain ⟨z0, z1⟩ := HX9.out
                      obtain ⟨x0, x1, x2, x3, x4, x5⟩ := HR9.out
                      have HN := Lib.hid (alln_next HQ.out (HPJ.out.2 (fun h => T5.out h.1)))
                      have t5 : (r.ty == 5) = false := by simpa using T5.out
                      go_wp2
                      go_quiet (fail)
                      have L9 : Hid (Below w.heap.size w (wr.drewN nq)) := HL9.out.trans (drewN_below _ _ _)
                      have X9 : Hid (Zx (wr.drewN nq) w.heap.size s (.slice (some ⟨b0, o0, none⟩) n c)) := HX9.out
                      have R9 : Hid (Bx (wr.drewN nq) (w.heap.size + 1) r) := HR9.out
                      clear x0 x1 x2 x3 x4 x5 z0 z1 hv HX9 HR9 HL9
                      generalize wr.drewN nq = w9 at *
                      go_wp2
                      go_roundw
                      case rel => exact ⟨j + 1, by omega, by go_num, HN.out, X9.out, R9.out, L9.out⟩
                      case measure => simp [intOf]; omega
                    · obtain rfl : n = j := by omega
                      have HPK : Hid (Alln l.length (Pk l (q + 1))) := show Alln _ _ by rw [HS.out.1]; exact HQ.out
                      have CO := Lib.hid (fun W (hW : Below w.heap.size w W) => CutOfS.spec s r.name b0 o0 n c l W (HS.out.on hW) hn hm HM.out HZ.out)
                      obtain ⟨z0, z1⟩ := HX9.out
                      obtain ⟨x0, x1, x2, x3, x4, x5⟩ := HR9.out
                      cases hco : co r.name (uq (cn s l)) with
                      | none =>
                        have HF := Lib.hid (dec_true (PRE.out HPK.out (HP0.out hco)))
                        rw [hco] at CO
                        clear hco
                        go_wp2_with fail
                        refine (CO.out _ HL9.out).mono ?_
                        rintro e w7 ⟨rfl, hl⟩
                        have L7 := Lib.hid (HL9.out.trans (hl.mono HL9.out.size))
                        clear hl CO z0 z1 x0 x1 x2 x3 x4 x5
                        unfold cv
                        go_wp2
                        go_ret
                        exact ⟨congrArg (fun b => Ending.returned (Value.bool b)) HF.out.symm, L7.out⟩
                      | some x =>
                        have HP := Lib.hid (HP1.out x hco)
                        rw [hco] at CO
                        clear hco
                        go_wp2_with fail
                        refine (CO.out _ HL9.out).mono ?_
                        rintro e w7 ⟨rfl, hl⟩
                        have L7 := Lib.hid (HL9.out.trans (hl.mono HL9.out.size))
                        have R7 := Lib.hid (HR9.out.below hl)
                        clear hl CO z0 z1 x0 x1 x2 x3 x4 x5
                        obtain ⟨x0, x1, x2, x3, x4, x5⟩ := R7.out
                        unfold cv
                        by_cases h1 : r.ty = 1
                        · have HF := Lib.hid (dec_true (PRE.out HPK.out (HP.out.2 (fun h => absurd h1 h))))
                          have t1 : (r.ty == 1) = true := by simpa using h1
                          clear h1
                          go_wp2
                          go_ret
                          exact ⟨congrArg (fun b => Ending.returned (Value.bool b)) HF.out.symm, L7.out⟩
                        have t1 : (r.ty == 1) = false := by simpa using h1
                        by_cases h2 : r.ty = 2
                        · have t2 : (r.ty == 2) = true := by simpa using h2
                          by_cases h3 : r.name = x
                          · have HF := Lib.hid (dec_true (PRE.out HPK.out (HP.out.2 (fun _ => ⟨h3, h2⟩))))
                            have n1 : (r.name.toList == x.toList) = true := by rw [h3]; simp
                            have n2 : (r.name.data.toList == x.data.toList) = true := by rw [h3]; simp
                            clear h1 h2 h3
                            go_wp2
                            go_ret
                            exact ⟨congrArg (fun b => Ending.returned (Value.bool b)) HF.out.symm, L7.out⟩
                          · have HF := Lib.hid (dec_false (fun h => h3 (HP.out.1 (NOT.out h) h1).1))
                            have n1 : (r.name.toList == x.toList) = false := text_ne h3
                            have n2 : (r.name.data.toList == x.data.toList) = false := text_ne2 h3
                            clear h1 h2 h3
                            go_wp2
                            go_ret
                            exact ⟨congrArg (fun b => Ending.returned (Value.bool b)) HF.out.symm, L7.out⟩
                        · have HF := Lib.hid (dec_false (fun h => h2 (HP.out.1 (NOT.out h) h1).2))
                          have t2 : (r.ty == 2) = false := by simpa using h2
                          clear h1 h2
                          go_wp2
                          go_ret
                          exact ⟨congrArg (fun b => Ending.returned (Value.bool b)) HF.out.symm, L7.out⟩
                · have HF := Lib.hid (dec_false (fun h => (HPS.out.1 h).1.1 ⟨h6, hns⟩))
                  have n1 : (r.name.toList == s.toList) = false := text_ne hns
                  have n2 : (r.name.data.toList == s.data.toList) = false := text_ne2 hns
                  clear h6 hns
                  go_wp2
                  go_ret
                  exact ⟨congrArg (fun b => Ending.returned (Value.bool b)) HF.out.symm, L5.out⟩
              have t6 : (r.ty == 6) = false := by simpa using h6
              by_cases h5 : r.ty = 5
              · have t5 : (r.ty == 5) = true := by simpa using h5
                by_cases hns : r.name = s
                · have HF := Lib.hid (dec_false (fun h => (HPS.out.1 h).1.2 ⟨h5, hns⟩))
                  have n1 : (r.name.toList == s.toList) = true := by rw [hns]; simp
                  have n2 : (r.name.data.toList == s.data.toList) = true := by rw [hns]; simp
                  clear h6 h5 hns
                  go_wp2
                  go_ret
                  exact ⟨congrArg (fun b => Ending.returned (Value.bool b)) HF.out.symm, L5.out⟩
                · have PRE : Hid (Alln l.length (Pk l (q + 1)) → Pc s l (q + 1) → Ps s l (q + 1)) := fun h1 h2 => HPS.out.2 ⟨⟨fun h => h6 h.1, fun h => hns h.2⟩, h1, h2⟩
                  have T5 : Hid (r.ty = 5) := h5
                  have n1 : (r.name.toList == s.toList) = false := text_ne hns
                  have n2 : (r.name.data.toList == s.data.toList) = false := text_ne2 hns
                  clear h6 h5 hns
                  go_wp2
                  clear n3 n4 t3 t4 y0 y1 y2 y3 y4 y5 z0 z1 x0 x1 x2 x3 x4 x5 t6 t5 n1 n2
                  go_loopw [7] (fun i wr => ∃ j : Nat, j ≤ n ∧ i = .int .i64 j ∧ Hid (Alln j (Pk l (q + 1))) ∧ Hid (Zx wr w.heap.size s (.slice (some ⟨b0, o0, none⟩) n c)) ∧ Hid (Bx wr (w.heap.size + 1) r) ∧ Hid (Below w.heap.size w wr)) (fun i _ => n - (intOf i).toNat)
                  case atStart => exact ⟨0, Nat.zero_le _, rfl, alln_zero, Z5.out, R5.out, L5.out⟩
                  case round =>
                    clear Z5 R5 L5
                    obtain ⟨j, hj, rfl, HQ, HX9, HR9, HL9⟩ := hrel
                    by_cases hlt2 : j < n
                    · obtain ⟨b, off, hA, hbB, hcs⟩ := HS.out.2 (by omega)
                      obtain ⟨rfl, rfl⟩ : b0 = b ∧ o0 = off := by simp at hA; exact hA
                      clear hA
                      have hjl : j < l.length := by rw [HS.out.1]; exact hlt2
                      have hv := ((hcs j hjl).below HL9.out hbB).1
                      clear hcs
                      have HPJ : Hid (Pk l (q + 1) j ↔ ¬ (r.ty = 5 ∧ j ≠ (q + 1) ∧ l[j].name = r.name)) := show _ ↔ _ by rw [Pk, HAT.out, at0_get hjl]
                      generalize l[j].name = y at *
                      obtain ⟨z0, z1⟩ := HX9.out
                      obtain ⟨x0, x1, x2, x3, x4, x5⟩ := HR9.out
                      have t5 : (r.ty == 5) = true := by simpa using T5.out
                      by_cases hjk : j = (q + 1)
                      · have HN := Lib.hid (alln_next HQ.out (HPJ.out.2 (fun h => h.2.1 hjk)))
                        have m0 : ((j : Int) != ((q : Int) + 1)) = false := by rw [hjk]; simp
                        clear hjk
                        go_wp2
                        go_quiet (fail)
                        have L9 : Hid (Below w.heap.size w (wr.drewN nq)) := HL9.out.trans (drewN_below _ _ _)
                        have X9 : Hid (Zx (wr.drewN nq) w.heap.size s (.slice (some ⟨b0, o0, none⟩) n c)) := HX9.out
                        have R9 : Hid (Bx (wr.drewN nq) (w.heap.size + 1) r) := HR9.out
                        clear x0 x1 x2 x3 x4 x5 z0 z1 hv HX9 HR9 HL9
                        generalize wr.drewN nq = w9 at *
                        go_wp2
                        go_roundw
                        case rel => exact ⟨j + 1, by omega, by go_num, HN.out, X9.out, R9.out, L9.out⟩
                        case measure => simp [intOf]; omega
                      have m0 : ((j : Int) != ((q : Int) + 1)) = true := by simp; omega
                      by_cases hny : y = r.name
                      · have HF := Lib.hid (dec_false (fun h => HPJ.out.1 (NPK.out h j hjl) ⟨T5.out, hjk, hny⟩))
                        have n1 : (y.toList == r.name.toList) = true := by rw [hny]; simp
                        have n2 : (y.data.toList == r.name.data.toList) = true := by rw [hny]; simp
                        clear hjk hny
                        go_wp2
                        go_quiet (fail)
                        have L9 : Hid (Below w.heap.size w (wr.drewN nq)) := HL9.out.trans (drewN_below _ _ _)
                        have X9 : Hid (Zx (wr.drewN nq) w.heap.size s (.slice (some ⟨b0, o0, none⟩) n c)) := HX9.out
                        have R9 : Hid (Bx (wr.drewN nq) (w.heap.size + 1) r) := HR9.out
                        clear x0 x1 x2 x3 x4 x5 z0 z1 hv HX9 HR9 HL9
                        generalize wr.drewN nq = w9 at *
                        go_wp2
                        go_ret
                        exact ⟨congrArg (fun b => Ending.returned (Value.bool b)) HF.out.symm, L9.out⟩
                      · have HN := Lib.hid (alln_next HQ.out (HPJ.out.2 (fun h => hny h.2.2)))
                        have n1 : (y.toList == r.name.toList) = false := text_ne hny
                        have n2 : (y.data.toList == r.name.data.toList) = false := text_ne2 hny
                        clear hjk hny
                        go_wp2
                        go_quiet (fail)
                        have L9 : Hid (Below w.heap.size w (wr.drewN nq)) := HL9.out.trans (drewN_below _ _ _)
                        have X9 : Hid (Zx (wr.drewN nq) w.heap.size s (.slice (some ⟨b0, o0, none⟩) n c)) := HX9.out
                        have R9 : Hid (Bx (wr.drewN nq) (w.heap.size + 1) r) := HR9.out
                        clear x0 x1 x2 x3 x4 x5 z0 z1 hv HX9 HR9 HL9
                        generalize wr.drewN nq = w9 at *
                        go_wp2
                        go_roundw
                        case rel => exact ⟨j + 1, by omega, by go_num, HN.out, X9.out, R9.out, L9.out⟩
                        case measure => simp [intOf]; omega
                    · obtain rfl : n = j := by omega
                      have HPK : Hid (Alln l.length (Pk l (q + 1))) := show Alln _ _ by rw [HS.out.1]; exact HQ.out
                      have CO := Lib.hid (fun W (hW : Below w.heap.size w W) => CutOfS.spec s r.name b0 o0 n c l W (HS.out.on hW) hn hm HM.out HZ.out)
                      obtain ⟨z0, z1⟩ := HX9.out
                      obtain ⟨x0, x1, x2, x3, x4, x5⟩ := HR9.out
                      cases hco : co r.name (uq (cn s l)) with
                      | none =>
                        have HF := Lib.hid (dec_true (PRE.out HPK.out (HP0.out hco)))
                        rw [hco] at CO
                        clear hco
                        go_wp2_with fail
                        refine (CO.out _ HL9.out).mono ?_
                        rintro e w7 ⟨rfl, hl⟩
                        have L7 := Lib.hid (HL9.out.trans (hl.mono HL9.out.size))
                        clear hl CO z0 z1 x0 x1 x2 x3 x4 x5
                        unfold cv
                        go_wp2
                        go_ret
                        exact ⟨congrArg (fun b => Ending.returned (Value.bool b)) HF.out.symm, L7.out⟩
                      | some x =>
                        have HP := Lib.hid (HP1.out x hco)
                        rw [hco] at CO
                        clear hco
                        go_wp2_with fail
                        refine (CO.out _ HL9.out).mono ?_
                        rintro e w7 ⟨rfl, hl⟩
                        have L7 := Lib.hid (HL9.out.trans (hl.mono HL9.out.size))
                        have R7 := Lib.hid (HR9.out.below hl)
                        clear hl CO z0 z1 x0 x1 x2 x3 x4 x5
                        obtain ⟨x0, x1, x2, x3, x4, x5⟩ := R7.out
                        unfold cv
                        by_cases h1 : r.ty = 1
                        · have HF := Lib.hid (dec_true (PRE.out HPK.out (HP.out.2 (fun h => absurd h1 h))))
                          have t1 : (r.ty == 1) = true := by simpa using h1
                          clear h1
                          go_wp2
                          go_ret
                          exact ⟨congrArg (fun b => Ending.returned (Value.bool b)) HF.out.symm, L7.out⟩
                        have t1 : (r.ty == 1) = false := by simpa using h1
                        by_cases h2 : r.ty = 2
                        · have t2 : (r.ty == 2) = true := by simpa using h2
                          by_cases h3 : r.name = x
                          · have HF := Lib.hid (dec_true (PRE.out HPK.out (HP.out.2 (fun _ => ⟨h3, h2⟩))))
                            have n1 : (r.name.toList == x.toList) = true := by rw [h3]; simp
                            have n2 : (r.name.data.toList == x.data.toList) = true := by rw [h3]; simp
                            clear h1 h2 h3
                            go_wp2
                            go_ret
                            exact ⟨congrArg (fun b => Ending.returned (Value.bool b)) HF.out.symm, L7.out⟩
                          · have HF := Lib.hid (dec_false (fun h => h3 (HP.out.1 (NOT.out h) h1).1))
                            have n1 : (r.name.toList == x.toList) = false := text_ne h3
                            have n2 : (r.name.data.toList == x.data.toList) = false := text_ne2 h3
                            clear h1 h2 h3
                            go_wp2
                            go_ret
                            exact ⟨congrArg (fun b => Ending.returned (Value.bool b)) HF.out.symm, L7.out⟩
                        · have HF := Lib.hid (dec_false (fun h => h2 (HP.out.1 (NOT.out h) h1).2))
                          have t2 : (r.ty == 2) = false := by simpa using h2
                          clear h1 h2
                          go_wp2
                          go_ret
                          exact ⟨congrArg (fun b => Ending.returned (Value.bool b)) HF.out.symm, L7.out⟩
              · have PRE : Hid (Alln l.length (Pk l (q + 1)) → Pc s l (q + 1) → Ps s l (q + 1)) := fun h1 h2 => HPS.out.2 ⟨⟨fun h => h6 h.1, fun h => h5 h.1⟩, h1, h2⟩
                have T5 : Hid (¬ r.ty = 5) := h5
                have t5 : (r.ty == 5) = false := by simpa using h5
                clear h6 h5
                go_wp2
                clear n3 n4 t3 t4 y0 y1 y2 y3 y4 y5 z0 z1 x0 x1 x2 x3 x4 x5 t6 t5
                go_loopw [7] (fun i wr => ∃ j : Nat, j ≤ n ∧ i = .int .i64 j ∧ Hid (Alln j (Pk l (q + 1))) ∧ Hid (Zx wr w.heap.size s (.slice (some ⟨b0, o0, none⟩) n c)) ∧ Hid (Bx wr (w.heap.size + 1) r) ∧ Hid (Below w.heap.size w wr)) (fun i _ => n - (intOf i).toNat)
                case atStart => exact ⟨0, Nat.zero_le _, rfl, alln_zero, Z5.out, R5.out, L5.out⟩
                case round =>
                  clear Z5 R5 L5
                  obtain ⟨j, hj, rfl, HQ, HX9, HR9, HL9⟩ := hrel
                  by_cases hlt2 : j < n
                  · obtain ⟨b, off, hA, hbB, hcs⟩ := HS.out.2 (by omega)
                    obtain ⟨rfl, rfl⟩ : b0 = b ∧ o0 = off := by simp at hA; exact hA
                    clear hA
                    have hjl : j < l.length := by rw [HS.out.1]; exact hlt2
                    have hv := ((hcs j hjl).below HL9.out hbB).1
                    clear hcs
                    have HPJ : Hid (Pk l (q + 1) j ↔ ¬ (r.ty = 5 ∧ j ≠ (q + 1) ∧ l[j].name = r.name)) := show _ ↔ _ by rw [Pk, HAT.out, at0_get hjl]
                    generalize l[j].name = y at *
                    obtain ⟨z0, z1⟩ := HX9.out
                    obtain ⟨x0, x1, x2, x3, x4, x5⟩ := HR9.out
                    have HN := Lib.hid (alln_next HQ.out (HPJ.out.2 (fun h => T5.out h.1)))
                    have t5 : (r.ty == 5) = false := by simpa using T5.out
                    go_wp2
                    go_quiet (fail)
                    have L9 : Hid (Below w.heap.size w (wr.drewN nq)) := HL9.out.trans (drewN_below _ _ _)
                    have X9 : Hid (Zx (wr.drewN nq) w.heap.size s (.slice (some ⟨b0, o0, none⟩) n c)) := HX9.out
                    have R9 : Hid (Bx (wr.drewN nq) (w.heap.size + 1) r) := HR9.out
                    clear x0 x1 x2 x3 x4 x5 z0 z1 hv HX9 HR9 HL9
                    generalize wr.drewN nq = w9 at *
                    go_wp2
                    go_roundw
                    case rel => exact ⟨j + 1, by omega, by go_num, HN.out, X9.out, R9.out, L9.out⟩
                    case measure => simp [intOf]; omega
                  · obtain rfl : n = j := by omega
                    have HPK : Hid (Alln l.length (Pk l (q + 1))) := show Alln _ _ by rw [HS.out.1]; exact HQ.out
                    have CO := Lib.hid (fun W (hW : Below w.heap.size w W) => CutOfS.spec s r.name b0 o0 n c l W (HS.out.on hW) hn hm HM.out HZ.out)
                    obtain ⟨z0, z1⟩ := HX9.out
                    obtain ⟨x0, x1, x2, x3, x4, x5⟩ := HR9.out
                    cases hco : co r.name (uq (cn s l)) with
                    | none =>
                      have HF := Lib.hid (dec_true (PRE.out HPK.out (HP0.out hco)))
                      rw [hco] at CO
                      clear hco
                      go_wp2_with fail
                      refine (CO.out _ HL9.out).mono ?_
                      rintro e w7 ⟨rfl, hl⟩
                      have L7 := Lib.hid (HL9.out.trans (hl.mono HL9.out.size))
                      clear hl CO z0 z1 x0 x1 x2 x3 x4 x5
                      unfold cv
                      go_wp2
                      go_ret
                      exact ⟨congrArg (fun b => Ending.returned (Value.bool b)) HF.out.symm, L7.out⟩
                    | some x =>
                      have HP := Lib.hid (HP1.out x hco)
                      rw [hco] at CO
                      clear hco
                      go_wp2_with fail
                      refine (CO.out _ HL9.out).mono ?_
                      rintro e w7 ⟨rfl, hl⟩
                      have L7 := Lib.hid (HL9.out.trans (hl.mono HL9.out.size))
                      have R7 := Lib.hid (HR9.out.below hl)
                      clear hl CO z0 z1 x0 x1 x2 x3 x4 x5
                      obtain ⟨x0, x1, x2, x3, x4, x5⟩ := R7.out
                      unfold cv
                      by_cases h1 : r.ty = 1
                      · have HF := Lib.hid (dec_true (PRE.out HPK.out (HP.out.2 (fun h => absurd h1 h))))
                        have t1 : (r.ty == 1) = true := by simpa using h1
                        clear h1
                        go_wp2
                        go_ret
                        exact ⟨congrArg (fun b => Ending.returned (Value.bool b)) HF.out.symm, L7.out⟩
                      have t1 : (r.ty == 1) = false := by simpa using h1
                      by_cases h2 : r.ty = 2
                      · have t2 : (r.ty == 2) = true := by simpa using h2
                        by_cases h3 : r.name = x
                        · have HF := Lib.hid (dec_true (PRE.out HPK.out (HP.out.2 (fun _ => ⟨h3, h2⟩))))
                          have n1 : (r.name.toList == x.toList) = true := by rw [h3]; simp
                          have n2 : (r.name.data.toList == x.data.toList) = true := by rw [h3]; simp
                          clear h1 h2 h3
                          go_wp2
                          go_ret
                          exact ⟨congrArg (fun b => Ending.returned (Value.bool b)) HF.out.symm, L7.out⟩
                        · have HF := Lib.hid (dec_false (fun h => h3 (HP.out.1 (NOT.out h) h1).1))
                          have n1 : (r.name.toList == x.toList) = false := text_ne h3
                          have n2 : (r.name.data.toList == x.data.toList) = false := text_ne2 h3
                          clear h1 h2 h3
                          go_wp2
                          go_ret
                          exact ⟨congrArg (fun b => Ending.returned (Value.bool b)) HF.out.symm, L7.out⟩
                      · have HF := Lib.hid (dec_false (fun h => h2 (HP.out.1 (NOT.out h) h1).2))
                        have t2 : (r.ty == 2) = false := by simpa using h2
                        clear h1 h2
                        go_wp2
                        go_ret
                        exact ⟨congrArg (fun b => Ending.returned (Value.bool b)) HF.out.symm, L7.out⟩
            · have t4 : (p.ttl != r.ttl) = true := by simpa using hpl
              have HF := Lib.hid (dec_false (fun h => (HPO.out.1 (HPS1.out.1 h).1).2 ⟨hpn, hpt, hpl⟩))
              obtain ⟨x0, x1, x2, x3, x4, x5⟩ := R5.out
              clear hlr hpn hpt hpl
              go_wp2
              go_ret
              exact ⟨congrArg (fun b => Ending.returned (Value.bool b)) HF.out.symm, L5.out⟩
          · have t3 : (p.ty == r.ty) = false := by simpa using hpt
            have HPS : Hid (Ps s l (q + 1) ↔ (¬ (r.ty = 6 ∧ r.name ≠ s) ∧ ¬ (r.ty = 5 ∧ r.name = s)) ∧ Alln l.length (Pk l (q + 1)) ∧ Pc s l (q + 1)) := ⟨fun h => (HPS1.out.1 h).2, fun h => HPS1.out.2 ⟨HPO.out.2 ⟨hlr, fun g => hpt g.2.1⟩, h⟩⟩
            clear HPS1 HPO hlr hpn hpt P5
            have NOT : Hid (Ps s l (q + 1) → Pc s l (q + 1)) := fun h => (HPS.out.1 h).2.2
            have NPK : Hid (Ps s l (q + 1) → Alln l.length (Pk l (q + 1))) := fun h => (HPS.out.1 h).2.1
            obtain ⟨z0, z1⟩ := Z5.out
            obtain ⟨x0, x1, x2, x3, x4, x5⟩ := R5.out
            by_cases h6 : r.ty = 6
            · have t6 : (r.ty == 6) = true := by simpa using h6
              by_cases hns : r.name = s
              · have PRE : Hid (Alln l.length (Pk l (q + 1)) → Pc s l (q + 1) → Ps s l (q + 1)) := fun h1 h2 => HPS.out.2 ⟨⟨fun h => h.2 hns, fun h => by rw [h6] at h; omega⟩, h1, h2⟩
                have T5 : Hid (¬ r.ty = 5) := show ¬ _ from fun h => by omega
                have t5 : (r.ty == 5) = false := by simpa using T5.out
                have n1 : (r.name.toList == s.toList) = true := by rw [hns]; simp
                have n2 : (r.name.data.toList == s.data.toList) = true := by rw [hns]; simp
                clear h6 hns
                go_wp2
                clear n3 n4 t3 y0 y1 y2 y3 y4 y5 z0 z1 x0 x1 x2 x3 x4 x5 t6 t5 n1 n2
                go_loopw [7] (fun i wr => ∃ j : Nat, j ≤ n ∧ i = .int .i64 j ∧ Hid (Alln j (Pk l (q + 1))) ∧ Hid (Zx wr w.heap.size s (.slice (some ⟨b0, o0, none⟩) n c)) ∧ Hid (Bx wr (w.heap.size + 1) r) ∧ Hid (Below w.heap.size w wr)) (fun i _ => n - (intOf i).toNat)
                case atStart => exact ⟨0, Nat.zero_le _, rfl, alln_zero, Z5.out, R5.out, L5.out⟩
                case round =>
                  clear Z5 R5 L5
                  obtain ⟨j, hj, rfl, HQ, HX9, HR9, HL9⟩ := hrel
                  by_cases hlt2 : j < n
                  · obtain ⟨b, off, hA, hbB, hcs⟩ := HS.out.2 (by omega)
                    obtain ⟨rfl, rfl⟩ : b0 = b ∧ o0 = off := by simp at hA; exact hA
                    clear hA
                    have hjl : j < l.length := by rw [HS.out.1]; exact hlt2
                    have hv := ((hcs j hjl).below HL9.out hbB).1
                    clear hcs
                    have HPJ : Hid (Pk l (q + 1) j ↔ ¬ (r.ty = 5 ∧ j ≠ (q + 1) ∧ l[j].name = r.name)) := show _ ↔ _ by rw [Pk, HAT.out, at0_get hjl]
                    generalize l[j].name = y at *
                    obtain ⟨z0, z1⟩ := HX9.out
                    obtain ⟨x0, x1, x2, x3, x4, x5⟩ := HR9.out
                    have HN := Lib.hid (alln_next HQ.out (HPJ.out.2 (fun h => T5.out h.1)))
                    have t5 : (r.ty == 5) = false := by simpa using T5.out
                    go_wp2
                    go_quiet (fail)
                    have L9 : Hid (Below w.heap.size w (wr.drewN nq)) := HL9.out.trans (drewN_below _ _ _)
                    have X9 : Hid (Zx (wr.drewN nq) w.heap.size s (.slice (some ⟨b0, o0, none⟩) n c)) := HX9.out
                    have R9 : Hid (Bx (wr.drewN nq) (w.heap.size + 1) r) := HR9.out
                    clear x0 x1 x2 x3 x4 x5 z0 z1 hv HX9 HR9 HL9
                    generalize wr.drewN nq = w9 at *
                    go_wp2
                    go_roundw
                    case rel => exact ⟨j + 1, by omega, by go_num, HN.out, X9.out, R9.out, L9.out⟩
                    case measure => simp [intOf]; omega
                  · obtain rfl : n = j := by omega
                    have HPK : Hid (Alln l.length (Pk l (q + 1))) := show Alln _ _ by rw [HS.out.1]; exact HQ.out
                    have CO := Lib.hid (fun W (hW : Below w.heap.size w W) => CutOfS.spec s r.name b0 o0 n c l W (HS.out.on hW) hn hm HM.out HZ.out)
                    obtain ⟨z0, z1⟩ := HX9.out
                    obtain ⟨x0, x1, x2, x3, x4, x5⟩ := HR9.out
                    cases hco : co r.name (uq (cn s l)) with
                    | none =>
                      have HF := Lib.hid (dec_true (PRE.out HPK.out (HP0.out hco)))
                      rw [hco] at CO
                      clear hco
                      go_wp2_with fail
                      refine (CO.out _ HL9.out).mono ?_
                      rintro e w7 ⟨rfl, hl⟩
                      have L7 := Lib.hid (HL9.out.trans (hl.mono HL9.out.size))
                      clear hl CO z0 z1 x0 x1 x2 x3 x4 x5
                      unfold cv
                      go_wp2
                      go_ret
                      exact ⟨congrArg (fun b => Ending.returned (Value.bool b)) HF.out.symm, L7.out⟩
                    | some x =>
                      have HP := Lib.hid (HP1.out x hco)
                      rw [hco] at CO
                      clear hco
                      go_wp2_with fail
                      refine (CO.out _ HL9.out).mono ?_
                      rintro e w7 ⟨rfl, hl⟩
                      have L7 := Lib.hid (HL9.out.trans (hl.mono HL9.out.size))
                      have R7 := Lib.hid (HR9.out.below hl)
                      clear hl CO z0 z1 x0 x1 x2 x3 x4 x5
                      obtain ⟨x0, x1, x2, x3, x4, x5⟩ := R7.out
                      unfold cv
                      by_cases h1 : r.ty = 1
                      · have HF := Lib.hid (dec_true (PRE.out HPK.out (HP.out.2 (fun h => absurd h1 h))))
                        have t1 : (r.ty == 1) = true := by simpa using h1
                        clear h1
                        go_wp2
                        go_ret
                        exact ⟨congrArg (fun b => Ending.returned (Value.bool b)) HF.out.symm, L7.out⟩
                      have t1 : (r.ty == 1) = false := by simpa using h1
                      by_cases h2 : r.ty = 2
                      · have t2 : (r.ty == 2) = true := by simpa using h2
                        by_cases h3 : r.name = x
                        · have HF := Lib.hid (dec_true (PRE.out HPK.out (HP.out.2 (fun _ => ⟨h3, h2⟩))))
                          have n1 : (r.name.toList == x.toList) = true := by rw [h3]; simp
                          have n2 : (r.name.data.toList == x.data.toList) = true := by rw [h3]; simp
                          clear h1 h2 h3
                          go_wp2
                          go_ret
                          exact ⟨congrArg (fun b => Ending.returned (Value.bool b)) HF.out.symm, L7.out⟩
                        · have HF := Lib.hid (dec_false (fun h => h3 (HP.out.1 (NOT.out h) h1).1))
                          have n1 : (r.name.toList == x.toList) = false := text_ne h3
                          have n2 : (r.name.data.toList == x.data.toList) = false := text_ne2 h3
                          clear h1 h2 h3
                          go_wp2
                          go_ret
                          exact ⟨congrArg (fun b => Ending.returned (Value.bool b)) HF.out.symm, L7.out⟩
                      · have HF := Lib.hid (dec_false (fun h => h2 (HP.out.1 (NOT.out h) h1).2))
                        have t2 : (r.ty == 2) = false := by simpa using h2
                        clear h1 h2
                        go_wp2
                        go_ret
                        exact ⟨congrArg (fun b => Ending.returned (Value.bool b)) HF.out.symm, L7.out⟩
              · have HF := Lib.hid (dec_false (fun h => (HPS.out.1 h).1.1 ⟨h6, hns⟩))
                have n1 : (r.name.toList == s.toList) = false := text_ne hns
                have n2 : (r.name.data.toList == s.data.toList) = false := text_ne2 hns
                clear h6 hns
                go_wp2
                go_ret
                exact ⟨congrArg (fun b => Ending.returned (Value.bool b)) HF.out.symm, L5.out⟩
            have t6 : (r.ty == 6) = false := by simpa using h6
            by_cases h5 : r.ty = 5
            · have t5 : (r.ty == 5) = true := by simpa using h5
              by_cases hns : r.name = s
              · have HF := Lib.hid (dec_false (fun h => (HPS.out.1 h).1.2 ⟨h5, hns⟩))
                have n1 : (r.name.toList == s.toList) = true := by rw [hns]; simp
                have n2 : (r.name.data.toList == s.data.toList) = true := by rw [hns]; simp
                clear h6 h5 hns
                go_wp2
                go_ret
                exact ⟨congrArg (fun b => Ending.returned (Value.bool b)) HF.out.symm, L5.out⟩
              · have PRE : Hid (Alln l.length (Pk l (q + 1)) → Pc s l (q + 1) → Ps s l (q + 1)) := fun h1 h2 => HPS.out.2 ⟨⟨fun h => h6 h.1, fun h => hns h.2⟩, h1, h2⟩
                have T5 : Hid (r.ty = 5) := h5
                have n1 : (r.name.toList == s.toList) = false := text_ne hns
                have n2 : (r.name.data.toList == s.data.toList) = false := text_ne2 hns
                clear h6 h5 hns
                go_wp2
                clear n3 n4 t3 y0 y1 y2 y3 y4 y5 z0 z1 x0 x1 x2 x3 x4 x5 t6 t5 n1 n2
                go_loopw [7] (fun i wr => ∃ j : Nat, j ≤ n ∧ i = .int .i64 j ∧ Hid (Alln j (Pk l (q + 1))) ∧ Hid (Zx wr w.heap.size s (.slice (some ⟨b0, o0, none⟩) n c)) ∧ Hid (Bx wr (w.heap.size + 1) r) ∧ Hid (Below w.heap.size w wr)) (fun i _ => n - (intOf i).toNat)
                case atStart => exact ⟨0, Nat.zero_le _, rfl, alln_zero, Z5.out, R5.out, L5.out⟩
                case round =>
                  clear Z5 R5 L5
                  obtain ⟨j, hj, rfl, HQ, HX9, HR9, HL9⟩ := hrel
                  by_cases hlt2 : j < n
                  · obtain ⟨b, off, hA, hbB, hcs⟩ := HS.out.2 (by omega)
                    obtain ⟨rfl, rfl⟩ : b0 = b ∧ o0 = off := by simp at hA; exact hA
                    clear hA
                    have hjl : j < l.length := by rw [HS.out.1]; exact hlt2
                    have hv := ((hcs j hjl).below HL9.out hbB).1
                    clear hcs
                    have HPJ : Hid (Pk l (q + 1) j ↔ ¬ (r.ty = 5 ∧ j ≠ (q + 1) ∧ l[j].name = r.name)) := show _ ↔ _ by rw [Pk, HAT.out, at0_get hjl]
                    generalize l[j].name = y at *
                    obtain ⟨z0, z1⟩ := HX9.out
                    obtain ⟨x0, x1, x2, x3, x4, x5⟩ := HR9.out
                    have t5 : (r.ty == 5) = true := by simpa using T5.out
                    by_cases hjk : j = (q + 1)
                    · have HN := Lib.hid (alln_next HQ.out (HPJ.out.2 (fun h => h.2.1 hjk)))
                      have m0 : ((j : Int) != ((q : Int) + 1)) = false := by rw [hjk]; simp
                      clear hjk
                      go_wp2
                      go_quiet (fail)
                      have L9 : Hid (Below w.heap.size w (wr.drewN nq)) := HL9.out.trans (drewN_below _ _ _)
                      have X9 : Hid (Zx (wr.drewN nq) w.heap.size s (.slice (some ⟨b0, o0, none⟩) n c)) := HX9.out
                      have R9 : Hid (Bx (wr.drewN nq) (w.heap.size + 1) r) := HR9.out
                      clear x0 x1 x2 x3 x4 x5 z0 z1 hv HX9 HR9 HL9
                      generalize wr.drewN nq = w9 at *
                      go_wp2
                      go_roundw
                      case rel => exact ⟨j + 1, by omega, by go_num, HN.out, X9.out, R9.out, L9.out⟩
                      case measure => simp [intOf]; omega
                    have m0 : ((j : Int) != ((q : Int) + 1)) = true := by simp; omega
                    by_cases hny : y = r.name
                    · have HF := Lib.hid (dec_false (fun h => HPJ.out.1 (NPK.out h j hjl) ⟨T5.out, hjk, hny⟩))
                      have n1 : (y.toList == r.name.toList) = true := by rw [hny]; simp
                      have n2 : (y.data.toList == r.name.data.toList) = true := by rw [hny]; simp
                      clear hjk hny
                      go_wp2
                      go_quiet (fail)
                      have L9 : Hid (Below w.heap.size w (wr.drewN nq)) := HL9.out.trans (drewN_below _ _ _)
                      have X9 : Hid (Zx (wr.drewN nq) w.heap.size s (.slice (some ⟨b0, o0, none⟩) n c)) := HX9.out
                      have R9 : Hid (Bx (wr.drewN nq) (w.heap.size + 1) r) := HR9.out
                      clear x0 x1 x2 x3 x4 x5 z0 z1 hv HX9 HR9 HL9
                      generalize wr.drewN nq = w9 at *
                      go_wp2
                      go_ret
                      exact ⟨congrArg (fun b => Ending.returned (Value.bool b)) HF.out.symm, L9.out⟩
                    · have HN := Lib.hid (alln_next HQ.out (HPJ.out.2 (fun h => hny h.2.2)))
                      have n1 : (y.toList == r.name.toList) = false := text_ne hny
                      have n2 : (y.data.toList == r.name.data.toList) = false := text_ne2 hny
                      clear hjk hny
                      go_wp2
                      go_quiet (fail)
                      have L9 : Hid (Below w.heap.size w (wr.drewN nq)) := HL9.out.trans (drewN_below _ _ _)
                      have X9 : Hid (Zx (wr.drewN nq) w.heap.size s (.slice (some ⟨b0, o0, none⟩) n c)) := HX9.out
                      have R9 : Hid (Bx (wr.drewN nq) (w.heap.size + 1) r) := HR9.out
                      clear x0 x1 x2 x3 x4 x5 z0 z1 hv HX9 HR9 HL9
                      generalize wr.drewN nq = w9 at *
                      go_wp2
                      go_roundw
                      case rel => exact ⟨j + 1, by omega, by go_num, HN.out, X9.out, R9.out, L9.out⟩
                      case measure => simp [intOf]; omega
                  · obtain rfl : n = j := by omega
                    have HPK : Hid (Alln l.length (Pk l (q + 1))) := show Alln _ _ by rw [HS.out.1]; exact HQ.out
                    have CO := Lib.hid (fun W (hW : Below w.heap.size w W) => CutOfS.spec s r.name b0 o0 n c l W (HS.out.on hW) hn hm HM.out HZ.out)
                    obtain ⟨z0, z1⟩ := HX9.out
                    obtain ⟨x0, x1, x2, x3, x4, x5⟩ := HR9.out
                    cases hco : co r.name (uq (cn s l)) with
                    | none =>
                      have HF := Lib.hid (dec_true (PRE.out HPK.out (HP0.out hco)))
                      rw [hco] at CO
                      clear hco
                      go_wp2_with fail
                      refine (CO.out _ HL9.out).mono ?_
                      rintro e w7 ⟨rfl, hl⟩
                      have L7 := Lib.hid (HL9.out.trans (hl.mono HL9.out.size))
                      clear hl CO z0 z1 x0 x1 x2 x3 x4 x5
                      unfold cv
                      go_wp2
                      go_ret
                      exact ⟨congrArg (fun b => Ending.returned (Value.bool b)) HF.out.symm, L7.out⟩
                    | some x =>
                      have HP := Lib.hid (HP1.out x hco)
                      rw [hco] at CO
                      clear hco
                      go_wp2_with fail
                      refine (CO.out _ HL9.out).mono ?_
                      rintro e w7 ⟨rfl, hl⟩
                      have L7 := Lib.hid (HL9.out.trans (hl.mono HL9.out.size))
                      have R7 := Lib.hid (HR9.out.below hl)
                      clear hl CO z0 z1 x0 x1 x2 x3 x4 x5
                      obtain ⟨x0, x1, x2, x3, x4, x5⟩ := R7.out
                      unfold cv
                      by_cases h1 : r.ty = 1
                      · have HF := Lib.hid (dec_true (PRE.out HPK.out (HP.out.2 (fun h => absurd h1 h))))
                        have t1 : (r.ty == 1) = true := by simpa using h1
                        clear h1
                        go_wp2
                        go_ret
                        exact ⟨congrArg (fun b => Ending.returned (Value.bool b)) HF.out.symm, L7.out⟩
                      have t1 : (r.ty == 1) = false := by simpa using h1
                      by_cases h2 : r.ty = 2
                      · have t2 : (r.ty == 2) = true := by simpa using h2
                        by_cases h3 : r.name = x
                        · have HF := Lib.hid (dec_true (PRE.out HPK.out (HP.out.2 (fun _ => ⟨h3, h2⟩))))
                          have n1 : (r.name.toList == x.toList) = true := by rw [h3]; simp
                          have n2 : (r.name.data.toList == x.data.toList) = true := by rw [h3]; simp
                          clear h1 h2 h3
                          go_wp2
                          go_ret
                          exact ⟨congrArg (fun b => Ending.returned (Value.bool b)) HF.out.symm, L7.out⟩
                        · have HF := Lib.hid (dec_false (fun h => h3 (HP.out.1 (NOT.out h) h1).1))
                          have n1 : (r.name.toList == x.toList) = false := text_ne h3
                          have n2 : (r.name.data.toList == x.data.toList) = false := text_ne2 h3
                          clear h1 h2 h3
                          go_wp2
                          go_ret
                          exact ⟨congrArg (fun b => Ending.returned (Value.bool b)) HF.out.symm, L7.out⟩
                      · have HF := Lib.hid (dec_false (fun h => h2 (HP.out.1 (NOT.out h) h1).2))
                        have t2 : (r.ty == 2) = false := by simpa using h2
                        clear h1 h2
                        go_wp2
                        go_ret
                        exact ⟨congrArg (fun b => Ending.returned (Value.bool b)) HF.out.symm, L7.out⟩
            · have PRE : Hid (Alln l.length (Pk l (q + 1)) → Pc s l (q + 1) → Ps s l (q + 1)) := fun h1 h2 => HPS.out.2 ⟨⟨fun h => h6 h.1, fun h => h5 h.1⟩, h1, h2⟩
              have T5 : Hid (¬ r.ty = 5) := h5
              have t5 : (r.ty == 5) = false := by simpa using h5
              clear h6 h5
              go_wp2
              clear n3 n4 t3 y0 y1 y2 y3 y4 y5 z0 z1 x0 x1 x2 x3 x4 x5 t6 t5
              go_loopw [7] (fun i wr => ∃ j : Nat, j ≤ n ∧ i = .int .i64 j ∧ Hid (Alln j (Pk l (q + 1))) ∧ Hid (Zx wr w.heap.size s (.slice (some ⟨b0, o0, none⟩) n c)) ∧ Hid (Bx wr (w.heap.size + 1) r) ∧ Hid (Below w.heap.size w wr)) (fun i _ => n - (intOf i).toNat)
              case atStart => exact ⟨0, Nat.zero_le _, rfl, alln_zero, Z5.out, R5.out, L5.out⟩
              case round =>
                clear Z5 R5 L5
                obtain ⟨j, hj, rfl, HQ, HX9, HR9, HL9⟩ := hrel
                by_cases hlt2 : j < n
                · obtain ⟨b, off, hA, hbB, hcs⟩ := HS.out.2 (by omega)
                  obtain ⟨rfl, rfl⟩ : b0 = b ∧ o0 = off := by simp at hA; exact hA
                  clear hA
                  have hjl : j < l.length := by rw [HS.out.1]; exact hlt2
                  have hv := ((hcs j hjl).below HL9.out hbB).1
                  clear hcs
                  have HPJ : Hid (Pk l (q + 1) j ↔ ¬ (r.ty = 5 ∧ j ≠ (q + 1) ∧ l[j].name = r.name)) := show _ ↔ _ by rw [Pk, HAT.out, at0_get hjl]
                  generalize l[j].name = y at *
                  obtain ⟨z0, z1⟩ := HX9.out
                  obtain ⟨x0, x1, x2, x3, x4, x5⟩ := HR9.out
                  have HN := Lib.hid (alln_next HQ.out (HPJ.out.2 (fun h => T5.out h.1)))
                  have t5 : (r.ty == 5) = false := by simpa using T5.out
                  go_wp2
                  go_quiet (fail)
                  have L9 : Hid (Below w.heap.size w (wr.drewN nq)) := HL9.out.trans (drewN_below _ _ _)
                  have X9 : Hid (Zx (wr.drewN nq) w.heap.size s (.slice (some ⟨b0, o0, none⟩) n c)) := HX9.out
                  have R9 : Hid (Bx (wr.drewN nq) (w.heap.size + 1) r) := HR9.out
                  clear x0 x1 x2 x3 x4 x5 z0 z1 hv HX9 HR9 HL9
                  generalize wr.drewN nq = w9 at *
                  go_wp2
                  go_roundw
                  case rel => exact ⟨j + 1, by omega, by go_num, HN.out, X9.out, R9.out, L9.out⟩
                  case measure => simp [intOf]; omega
                · obtain rfl : n = j := by omega
                  have HPK : Hid (Alln l.length (Pk l (q + 1))) := show Alln _ _ by rw [HS.out.1]; exact HQ.out
                  have CO := Lib.hid (fun W (hW : Below w.heap.size w W) => CutOfS.spec s r.name b0 o0 n c l W (HS.out.on hW) hn hm HM.out HZ.out)
                  obtain ⟨z0, z1⟩ := HX9.out
                  obtain ⟨x0, x1, x2, x3, x4, x5⟩ := HR9.out
                  cases hco : co r.name (uq (cn s l)) with
                  | none =>
                    have HF := Lib.hid (dec_true (PRE.out HPK.out (HP0.out hco)))
                    rw [hco] at CO
                    clear hco
                    go_wp2_with fail
                    refine (CO.out _ HL9.out).mono ?_
                    rintro e w7 ⟨rfl, hl⟩
                    have L7 := Lib.hid (HL9.out.trans (hl.mono HL9.out.size))
                    clear hl CO z0 z1 x0 x1 x2 x3 x4 x5
                    unfold cv
                    go_wp2
                    go_ret
                    exact ⟨congrArg (fun b => Ending.returned (Value.bool b)) HF.out.symm, L7.out⟩
                  | some x =>
                    have HP := Lib.hid (HP1.out x hco)
                    rw [hco] at CO
                    clear hco
                    go_wp2_with fail
                    refine (CO.out _ HL9.out).mono ?_
                    rintro e w7 ⟨rfl, hl⟩
                    have L7 := Lib.hid (HL9.out.trans (hl.mono HL9.out.size))
                    have R7 := Lib.hid (HR9.out.below hl)
                    clear hl CO z0 z1 x0 x1 x2 x3 x4 x5
                    obtain ⟨x0, x1, x2, x3, x4, x5⟩ := R7.out
                    unfold cv
                    by_cases h1 : r.ty = 1
                    · have HF := Lib.hid (dec_true (PRE.out HPK.out (HP.out.2 (fun h => absurd h1 h))))
                      have t1 : (r.ty == 1) = true := by simpa using h1
                      clear h1
                      go_wp2
                      go_ret
                      exact ⟨congrArg (fun b => Ending.returned (Value.bool b)) HF.out.symm, L7.out⟩
                    have t1 : (r.ty == 1) = false := by simpa using h1
                    by_cases h2 : r.ty = 2
                    · have t2 : (r.ty == 2) = true := by simpa using h2
                      by_cases h3 : r.name = x
                      · have HF := Lib.hid (dec_true (PRE.out HPK.out (HP.out.2 (fun _ => ⟨h3, h2⟩))))
                        have n1 : (r.name.toList == x.toList) = true := by rw [h3]; simp
                        have n2 : (r.name.data.toList == x.data.toList) = true := by rw [h3]; simp
                        clear h1 h2 h3
                        go_wp2
                        go_ret
                        exact ⟨congrArg (fun b => Ending.returned (Value.bool b)) HF.out.symm, L7.out⟩
                      · have HF := Lib.hid (dec_false (fun h => h3 (HP.out.1 (NOT.out h) h1).1))
                        have n1 : (r.name.toList == x.toList) = false := text_ne h3
                        have n2 : (r.name.data.toList == x.data.toList) = false := text_ne2 h3
                        clear h1 h2 h3
                        go_wp2
                        go_ret
                        exact ⟨congrArg (fun b => Ending.returned (Value.bool b)) HF.out.symm, L7.out⟩
                    · have HF := Lib.hid (dec_false (fun h => h2 (HP.out.1 (NOT.out h) h1).2))
                      have t2 : (r.ty == 2) = false := by simpa using h2
                      clear h1 h2
                      go_wp2
                      go_ret
                      exact ⟨congrArg (fun b => Ending.returned (Value.bool b)) HF.out.symm, L7.out⟩
        · have n3 : (p.name.toList == r.name.toList) = false := text_ne hpn
          have n4 : (p.name.data.toList == r.name.data.toList) = false := text_ne2 hpn
          have HPS : Hid (Ps s l (q + 1) ↔ (¬ (r.ty = 6 ∧ r.name ≠ s) ∧ ¬ (r.ty = 5 ∧ r.name = s)) ∧ Alln l.length (Pk l (q + 1)) ∧ Pc s l (q + 1)) := ⟨fun h => (HPS1.out.1 h).2, fun h => HPS1.out.2 ⟨HPO.out.2 ⟨hlr, fun g => hpn g.1⟩, h⟩⟩
          clear HPS1 HPO hlr hpn P5
          have NOT : Hid (Ps s l (q + 1) → Pc s l (q + 1)) := fun h => (HPS.out.1 h).2.2
          have NPK : Hid (Ps s l (q + 1) → Alln l.length (Pk l (q + 1))) := fun h => (HPS.out.1 h).2.1
          obtain ⟨z0, z1⟩ := Z5.out
          obtain ⟨x0, x1, x2, x3, x4, x5⟩ := R5.out
          by_cases h6 : r.ty = 6
          · have t6 : (r.ty == 6) = true := by simpa using h6
            by_cases hns : r.name = s
            · have PRE : Hid (Alln l.length (Pk l (q + 1)) → Pc s l (q + 1) → Ps s l (q + 1)) := fun h1 h2 => HPS.out.2 ⟨⟨fun h => h.2 hns, fun h => by rw [h6] at h; omega⟩, h1, h2⟩
              have T5 : Hid (¬ r.ty = 5) := show ¬ _ from fun h => by omega
              have t5 : (r.ty == 5) = false := by simpa using T5.out
              have n1 : (r.name.toList == s.toList) = true := by rw [hns]; simp
              have n2 : (r.name.data.toList == s.data.toList) = true := by rw [hns]; simp
              clear h6 hns
              go_wp2
              clear n3 n4 y0 y1 y2 y3 y4 y5 z0 z1 x0 x1 x2 x3 x4 x5 t6 t5 n1 n2
              go_loopw [7] (fun i wr => ∃ j : Nat, j ≤ n ∧ i = .int .i64 j ∧ Hid (Alln j (Pk l (q + 1))) ∧ Hid (Zx wr w.heap.size s (.slice (some ⟨b0, o0, none⟩) n c)) ∧ Hid (Bx wr (w.heap.size + 1) r) ∧ Hid (Below w.heap.size w wr)) (fun i _ => n - (intOf i).toNat)
              case atStart => exact ⟨0, Nat.zero_le _, rfl, alln_zero, Z5.out, R5.out, L5.out⟩
              case round =>
                clear Z5 R5 L5
                obtain ⟨j, hj, rfl, HQ, HX9, HR9, HL9⟩ := hrel
                by_cases hlt2 : j < n
                · obtain ⟨b, off, hA, hbB, hcs⟩ := HS.out.2 (by omega)
                  obtain ⟨rfl, rfl⟩ : b0 = b ∧ o0 = off := by simp at hA; exact hA
                  clear hA
                  have hjl : j < l.length := by rw [HS.out.1]; exact hlt2
                  have hv := ((hcs j hjl).below HL9.out hbB).1
                  clear hcs
                  have HPJ : Hid (Pk l (q + 1) j ↔ ¬ (r.ty = 5 ∧ j ≠ (q + 1) ∧ l[j].name = r.name)) := show _ ↔ _ by rw [Pk, HAT.out, at0_get hjl]
                  generalize l[j].name = y at *
                  obtain ⟨z0, z1⟩ := HX9.out
                  obtain ⟨x0, x1, x2, x3, x4, x5⟩ := HR9.out
                  have HN := Lib.hid (alln_next HQ.out (HPJ.out.2 (fun h => T5.out h.1)))
                  have t5 : (r.ty == 5) = false := by simpa using T5.out
                  go_wp2
                  go_quiet (fail)
                  have L9 : Hid (Below w.heap.size w (wr.drewN nq)) := HL9.out.trans (drewN_below _ _ _)
                  have X9 : Hid (Zx (wr.drewN nq) w.heap.size s (.slice (some ⟨b0, o0, none⟩) n c)) := HX9.out
                  have R9 : Hid (Bx (wr.drewN nq) (w.heap.size + 1) r) := HR9.out
                  clear x0 x1 x2 x3 x4 x5 z0 z1 hv HX9 HR9 HL9
                  generalize wr.drewN nq = w9 at *
                  go_wp2
                  go_roundw
                  case rel => exact ⟨j + 1, by omega, by go_num, HN.out, X9.out, R9.out, L9.out⟩
                  case measure => simp [intOf]; omega
                · obtain rfl : n = j := by omega
                  have HPK : Hid (Alln l.length (Pk l (q + 1))) := show Alln _ _ by rw [HS.out.1]; exact HQ.out
                  have CO := Lib.hid (fun W (hW : Below w.heap.size w W) => CutOfS.spec s r.name b0 o0 n c l W (HS.out.on hW) hn hm HM.out HZ.out)
                  obtain ⟨z0, z1⟩ := HX9.out
                  obtain ⟨x0, x1, x2, x3, x4, x5⟩ := HR9.out
                  cases hco : co r.name (uq (cn s l)) with
                  | none =>
                    have HF := Lib.hid (dec_true (PRE.out HPK.out (HP0.out hco)))
                    rw [hco] at CO
                    clear hco
                    go_wp2_with fail
                    refine (CO.out _ HL9.out).mono ?_
                    rintro e w7 ⟨rfl, hl⟩
                    have L7 := Lib.hid (HL9.out.trans (hl.mono HL9.out.size))
                    clear hl CO z0 z1 x0 x1 x2 x3 x4 x5
                    unfold cv
                    go_wp2
                    go_ret
                    exact ⟨congrArg (fun b => Ending.returned (Value.bool b)) HF.out.symm, L7.out⟩
                  | some x =>
                    have HP := Lib.hid (HP1.out x hco)
                    rw [hco] at CO
                    clear hco
                    go_wp2_with fail
                    refine (CO.out _ HL9.out).mono ?_
                    rintro e w7 ⟨rfl, hl⟩
                    have L7 := Lib.hid (HL9.out.trans (hl.mono HL9.out.size))
                    have R7 := Lib.hid (HR9.out.below hl)
                    clear hl CO z0 z1 x0 x1 x2 x3 x4 x5
                    obtain ⟨x0, x1, x2, x3, x4, x5⟩ := R7.out
                    unfold cv
                    by_cases h1 : r.ty = 1
                    · have HF := Lib.hid (dec_true (PRE.out HPK.out (HP.out.2 (fun h => absurd h1 h))))
                      have t1 : (r.ty == 1) = true := by simpa using h1
                      clear h1
                      go_wp2
                      go_ret
                      exact ⟨congrArg (fun b => Ending.returned (Value.bool b)) HF.out.symm, L7.out⟩
                    have t1 : (r.ty == 1) = false := by simpa using h1
                    by_cases h2 : r.ty = 2
                    · have t2 : (r.ty == 2) = true := by simpa using h2
                      by_cases h3 : r.name = x
                      · have HF := Lib.hid (dec_true (PRE.out HPK.out (HP.out.2 (fun _ => ⟨h3, h2⟩))))
                        have n1 : (r.name.toList == x.toList) = true := by rw [h3]; simp
                        have n2 : (r.name.data.toList == x.data.toList) = true := by rw [h3]; simp
                        clear h1 h2 h3
                        go_wp2
                        go_ret
                        exact ⟨congrArg (fun b => Ending.returned (Value.bool b)) HF.out.symm, L7.out⟩
                      · have HF := Lib.hid (dec_false (fun h => h3 (HP.out.1 (NOT.out h) h1).1))
                        have n1 : (r.name.toList == x.toList) = false := text_ne h3
                        have n2 : (r.name.data.toList == x.data.toList) = false := text_ne2 h3
                        clear h1 h2 h3
                        go_wp2
                        go_ret
                        exact ⟨congrArg (fun b => Ending.returned (Value.bool b)) HF.out.symm, L7.out⟩
                    · have HF := Lib.hid (dec_false (fun h => h2 (HP.out.1 (NOT.out h) h1).2))
                      have t2 : (r.ty == 2) = false := by simpa using h2
                      clear h1 h2
                      go_wp2
                      go_ret
                      exact ⟨congrArg (fun b => Ending.returned (Value.bool b)) HF.out.symm, L7.out⟩
            · have HF := Lib.hid (dec_false (fun h => (HPS.out.1 h).1.1 ⟨h6, hns⟩))
              have n1 : (r.name.toList == s.toList) = false := text_ne hns
              have n2 : (r.name.data.toList == s.data.toList) = false := text_ne2 hns
              clear h6 hns
              go_wp2
              go_ret
              exact ⟨congrArg (fun b => Ending.returned (Value.bool b)) HF.out.symm, L5.out⟩
          have t6 : (r.ty == 6) = false := by simpa using h6
          by_cases h5 : r.ty = 5
          · have t5 : (r.ty == 5) = true := by simpa using h5
            by_cases hns : r.name = s
            · have HF := Lib.hid (dec_false (fun h => (HPS.out.1 h).1.2 ⟨h5, hns⟩))
              have n1 : (r.name.toList == s.toList) = true := by rw [hns]; simp
              have n2 : (r.name.data.toList == s.data.toList) = true := by rw [hns]; simp
              clear h6 h5 hns
              go_wp2
              go_ret
              exact ⟨congrArg (fun b => Ending.returned (Value.bool b)) HF.out.symm, L5.out⟩
            · have PRE : Hid (Alln l.length (Pk l (q + 1)) → Pc s l (q + 1) → Ps s l (q + 1)) := fun h1 h2 => HPS.out.2 ⟨⟨fun h => h6 h.1, fun h => hns h.2⟩, h1, h2⟩
              have T5 : Hid (r.ty = 5) := h5
              have n1 : (r.name.toList == s.toList) = false := text_ne hns
              have n2 : (r.name.data.toList == s.data.toList) = false := text_ne2 hns
              clear h6 h5 hns
              go_wp2
              clear n3 n4 y0 y1 y2 y3 y4 y5 z0 z1 x0 x1 x2 x3 x4 x5 t6 t5 n1 n2
              go_loopw [7] (fun i wr => ∃ j : Nat, j ≤ n ∧ i = .int .i64 j ∧ Hid (Alln j (Pk l (q + 1))) ∧ Hid (Zx wr w.heap.size s (.slice (some ⟨b0, o0, none⟩) n c)) ∧ Hid (Bx wr (w.heap.size + 1) r) ∧ Hid (Below w.heap.size w wr)) (fun i _ => n - (intOf i).toNat)
              case atStart => exact ⟨0, Nat.zero_le _, rfl, alln_zero, Z5.out, R5.out, L5.out⟩
              case round =>
                clear Z5 R5 L5
                obtain ⟨j, hj, rfl, HQ, HX9, HR9, HL9⟩ := hrel
                by_cases hlt2 : j < n
                · obtain ⟨b, off, hA, hbB, hcs⟩ := HS.out.2 (by omega)
                  obtain ⟨rfl, rfl⟩ : b0 = b ∧ o0 = off := by simp at hA; exact hA
                  clear hA
                  have hjl : j < l.length := by rw [HS.out.1]; exact hlt2
                  have hv := ((hcs j hjl).below HL9.out hbB).1
                  clear hcs
                  have HPJ : Hid (Pk l (q + 1) j ↔ ¬ (r.ty = 5 ∧ j ≠ (q + 1) ∧ l[j].name = r.name)) := show _ ↔ _ by rw [Pk, HAT.out, at0_get hjl]
                  generalize l[j].name = y at *
                  obtain ⟨z0, z1⟩ := HX9.out
                  obtain ⟨x0, x1, x2, x3, x4, x5⟩ := HR9.out
                  have t5 : (r.ty == 5) = true := by simpa using T5.out
                  by_cases hjk : j = (q + 1)
                  · have HN := Lib.hid (alln_next HQ.out (HPJ.out.2 (fun h => h.2.1 hjk)))
                    have m0 : ((j : Int) != ((q : Int) + 1)) = false := by rw [hjk]; simp
                    clear hjk
                    go_wp2
                    go_quiet (fail)
                    have L9 : Hid (Below w.heap.size w (wr.drewN nq)) := HL9.out.trans (drewN_below _ _ _)
                    have X9 : Hid (Zx (wr.drewN nq) w.heap.size s (.slice (some ⟨b0, o0, none⟩) n c)) := HX9.out
                    have R9 : Hid (Bx (wr.drewN nq) (w.heap.size + 1) r) := HR9.out
                    clear x0 x1 x2 x3 x4 x5 z0 z1 hv HX9 HR9 HL9
                    generalize wr.drewN nq = w9 at *
                    go_wp2
                    go_roundw
                    case rel => exact ⟨j + 1, by omega, by go_num, HN.out, X9.out, R9.out, L9.out⟩
                    case measure => simp [intOf]; omega
                  have m0 : ((j : Int) != ((q : Int) + 1)) = true := by simp; omega
                  by_cases hny : y = r.name
                  · have HF := Lib.hid (dec_false (fun h => HPJ.out.1 (NPK.out h j hjl) ⟨T5.out, hjk, hny⟩))
                    have n1 : (y.toList == r.name.toList) = true := by rw [hny]; simp
                    have n2 : (y.data.toList == r.name.data.toList) = true := by rw [hny]; simp
                    clear hjk hny
                    go_wp2
                    go_quiet (fail)
                    have L9 : Hid (Below w.heap.size w (wr.drewN nq)) := HL9.out.trans (drewN_below _ _ _)
                    have X9 : Hid (Zx (wr.drewN nq) w.heap.size s (.slice (some ⟨b0, o0, none⟩) n c)) := HX9.out
                    have R9 : Hid (Bx (wr.drewN nq) (w.heap.size + 1) r) := HR9.out
                    clear x0 x1 x2 x3 x4 x5 z0 z1 hv HX9 HR9 HL9
                    generalize wr.drewN nq = w9 at *
                    go_wp2
                    go_ret
                    exact ⟨congrArg (fun b => Ending.returned (Value.bool b)) HF.out.symm, L9.out⟩
                  · have HN := Lib.hid (alln_next HQ.out (HPJ.out.2 (fun h => hny h.2.2)))
                    have n1 : (y.toList == r.name.toList) = false := text_ne hny
                    have n2 : (y.data.toList == r.name.data.toList) = false := text_ne2 hny
                    clear hjk hny
                    go_wp2
                    go_quiet (fail)
                    have L9 : Hid (Below w.heap.size w (wr.drewN nq)) := HL9.out.trans (drewN_below _ _ _)
                    have X9 : Hid (Zx (wr.drewN nq) w.heap.size s (.slice (some ⟨b0, o0, none⟩) n c)) := HX9.out
                    have R9 : Hid (Bx (wr.drewN nq) (w.heap.size + 1) r) := HR9.out
                    clear x0 x1 x2 x3 x4 x5 z0 z1 hv HX9 HR9 HL9
                    generalize wr.drewN nq = w9 at *
                    go_wp2
                    go_roundw
                    case rel => exact ⟨j + 1, by omega, by go_num, HN.out, X9.out, R9.out, L9.out⟩
                    case measure => simp [intOf]; omega
                · obtain rfl : n = j := by omega
                  have HPK : Hid (Alln l.length (Pk l (q + 1))) := show Alln _ _ by rw [HS.out.1]; exact HQ.out
                  have CO := Lib.hid (fun W (hW : Below w.heap.size w W) => CutOfS.spec s r.name b0 o0 n c l W (HS.out.on hW) hn hm HM.out HZ.out)
                  obtain ⟨z0, z1⟩ := HX9.out
                  obtain ⟨x0, x1, x2, x3, x4, x5⟩ := HR9.out
                  cases hco : co r.name (uq (cn s l)) with
                  | none =>
                    have HF := Lib.hid (dec_true (PRE.out HPK.out (HP0.out hco)))
                    rw [hco] at CO
                    clear hco
                    go_wp2_with fail
                    refine (CO.out _ HL9.out).mono ?_
                    rintro e w7 ⟨rfl, hl⟩
                    have L7 := Lib.hid (HL9.out.trans (hl.mono HL9.out.size))
                    clear hl CO z0 z1 x0 x1 x2 x3 x4 x5
                    unfold cv
                    go_wp2
                    go_ret
                    exact ⟨congrArg (fun b => Ending.returned (Value.bool b)) HF.out.symm, L7.out⟩
                  | some x =>
                    have HP := Lib.hid (HP1.out x hco)
                    rw [hco] at CO
                    clear hco
                    go_wp2_with fail
                    refine (CO.out _ HL9.out).mono ?_
                    rintro e w7 ⟨rfl, hl⟩
                    have L7 := Lib.hid (HL9.out.trans (hl.mono HL9.out.size))
                    have R7 := Lib.hid (HR9.out.below hl)
                    clear hl CO z0 z1 x0 x1 x2 x3 x4 x5
                    obtain ⟨x0, x1, x2, x3, x4, x5⟩ := R7.out
                    unfold cv
                    by_cases h1 : r.ty = 1
                    · have HF := Lib.hid (dec_true (PRE.out HPK.out (HP.out.2 (fun h => absurd h1 h))))
                      have t1 : (r.ty == 1) = true := by simpa using h1
                      clear h1
                      go_wp2
                      go_ret
                      exact ⟨congrArg (fun b => Ending.returned (Value.bool b)) HF.out.symm, L7.out⟩
                    have t1 : (r.ty == 1) = false := by simpa using h1
                    by_cases h2 : r.ty = 2
                    · have t2 : (r.ty == 2) = true := by simpa using h2
                      by_cases h3 : r.name = x
                      · have HF := Lib.hid (dec_true (PRE.out HPK.out (HP.out.2 (fun _ => ⟨h3, h2⟩))))
                        have n1 : (r.name.toList == x.toList) = true := by rw [h3]; simp
                        have n2 : (r.name.data.toList == x.data.toList) = true := by rw [h3]; simp
                        clear h1 h2 h3
                        go_wp2
                        go_ret
                        exact ⟨congrArg (fun b => Ending.returned (Value.bool b)) HF.out.symm, L7.out⟩
                      · have HF := Lib.hid (dec_false (fun h => h3 (HP.out.1 (NOT.out h) h1).1))
                        have n1 : (r.name.toList == x.toList) = false := text_ne h3
                        have n2 : (r.name.data.toList == x.data.toList) = false := text_ne2 h3
                        clear h1 h2 h3
                        go_wp2
                        go_ret
                        exact ⟨congrArg (fun b => Ending.returned (Value.bool b)) HF.out.symm, L7.out⟩
                    · have HF := Lib.hid (dec_false (fun h => h2 (HP.out.1 (NOT.out h) h1).2))
                      have t2 : (r.ty == 2) = false := by simpa using h2
                      clear h1 h2
                      go_wp2
                      go_ret
                      exact ⟨congrArg (fun b => Ending.returned (Value.bool b)) HF.out.symm, L7.out⟩
          · have PRE : Hid (Alln l.length (Pk l (q + 1)) → Pc s l (q + 1) → Ps s l (q + 1)) := fun h1 h2 => HPS.out.2 ⟨⟨fun h => h6 h.1, fun h => h5 h.1⟩, h1, h2⟩
            have T5 : Hid (¬ r.ty = 5) := h5
            have t5 : (r.ty == 5) = false := by simpa using h5
            clear h6 h5
            go_wp2
            clear n3 n4 y0 y1 y2 y3 y4 y5 z0 z1 x0 x1 x2 x3 x4 x5 t6 t5
            go_loopw [7] (fun i wr => ∃ j : Nat, j ≤ n ∧ i = .int .i64 j ∧ Hid (Alln j (Pk l (q + 1))) ∧ Hid (Zx wr w.heap.size s (.slice (some ⟨b0, o0, none⟩) n c)) ∧ Hid (Bx wr (w.heap.size + 1) r) ∧ Hid (Below w.heap.size w wr)) (fun i _ => n - (intOf i).toNat)
            case atStart => exact ⟨0, Nat.zero_le _, rfl, alln_zero, Z5.out, R5.out, L5.out⟩
            case round =>
              clear Z5 R5 L5
              obtain ⟨j, hj, rfl, HQ, HX9, HR9, HL9⟩ := hrel
              by_cases hlt2 : j < n
              · obtain ⟨b, off, hA, hbB, hcs⟩ := HS.out.2 (by omega)
                obtain ⟨rfl, rfl⟩ : b0 = b ∧ o0 = off := by simp at hA; exact hA
                clear hA
                have hjl : j < l.length := by rw [HS.out.1]; exact hlt2
                have hv := ((hcs j hjl).below HL9.out hbB).1
                clear hcs
                have HPJ : Hid (Pk l (q + 1) j ↔ ¬ (r.ty = 5 ∧ j ≠ (q + 1) ∧ l[j].name = r.name)) := show _ ↔ _ by rw [Pk, HAT.out, at0_get hjl]
                generalize l[j].name = y at *
                obtain ⟨z0, z1⟩ := HX9.out
                obtain ⟨x0, x1, x2, x3, x4, x5⟩ := HR9.out
                have HN := Lib.hid (alln_next HQ.out (HPJ.out.2 (fun h => T5.out h.1)))
                have t5 : (r.ty == 5) = false := by simpa using T5.out
                go_wp2
                go_quiet (fail)
                have L9 : Hid (Below w.heap.size w (wr.drewN nq)) := HL9.out.trans (drewN_below _ _ _)
                have X9 : Hid (Zx (wr.drewN nq) w.heap.size s (.slice (some ⟨b0, o0, none⟩) n c)) := HX9.out
                have R9 : Hid (Bx (wr.drewN nq) (w.heap.size + 1) r) := HR9.out
                clear x0 x1 x2 x3 x4 x5 z0 z1 hv HX9 HR9 HL9
                generalize wr.drewN nq = w9 at *
                go_wp2
                go_roundw
                case rel => exact ⟨j + 1, by omega, by go_num, HN.out, X9.out, R9.out, L9.out⟩
                case measure => simp [intOf]; omega
              · obtain rfl : n = j := by omega
                have HPK : Hid (Alln l.length (Pk l (q + 1))) := show Alln _ _ by rw [HS.out.1]; exact HQ.out
                have CO := Lib.hid (fun W (hW : Below w.heap.size w W) => CutOfS.spec s r.name b0 o0 n c l W (HS.out.on hW) hn hm HM.out HZ.out)
                obtain ⟨z0, z1⟩ := HX9.out
                obtain ⟨x0, x1, x2, x3, x4, x5⟩ := HR9.out
                cases hco : co r.name (uq (cn s l)) with
                | none =>
                  have HF := Lib.hid (dec_true (PRE.out HPK.out (HP0.out hco)))
                  rw [hco] at CO
                  clear hco
                  go_wp2_with fail
                  refine (CO.out _ HL9.out).mono ?_
                  rintro e w7 ⟨rfl, hl⟩
                  have L7 := Lib.hid (HL9.out.trans (hl.mono HL9.out.size))
                  clear hl CO z0 z1 x0 x1 x2 x3 x4 x5
                  unfold cv
                  go_wp2
                  go_ret
                  exact ⟨congrArg (fun b => Ending.returned (Value.bool b)) HF.out.symm, L7.out⟩
                | some x =>
                  have HP := Lib.hid (HP1.out x hco)
                  rw [hco] at CO
                  clear hco
                  go_wp2_with fail
                  refine (CO.out _ HL9.out).mono ?_
                  rintro e w7 ⟨rfl, hl⟩
                  have L7 := Lib.hid (HL9.out.trans (hl.mono HL9.out.size))
                  have R7 := Lib.hid (HR9.out.below hl)
                  clear hl CO z0 z1 x0 x1 x2 x3 x4 x5
                  obtain ⟨x0, x1, x2, x3, x4, x5⟩ := R7.out
                  unfold cv
                  by_cases h1 : r.ty = 1
                  · have HF := Lib.hid (dec_true (PRE.out HPK.out (HP.out.2 (fun h => absurd h1 h))))
                    have t1 : (r.ty == 1) = true := by simpa using h1
                    clear h1
                    go_wp2
                    go_ret
                    exact ⟨congrArg (fun b => Ending.returned (Value.bool b)) HF.out.symm, L7.out⟩
                  have t1 : (r.ty == 1) = false := by simpa using h1
                  by_cases h2 : r.ty = 2
                  · have t2 : (r.ty == 2) = true := by simpa using h2
                    by_cases h3 : r.name = x
                    · have HF := Lib.hid (dec_true (PRE.out HPK.out (HP.out.2 (fun _ => ⟨h3, h2⟩))))
                      have n1 : (r.name.toList == x.toList) = true := by rw [h3]; simp
                      have n2 : (r.name.data.toList == x.data.toList) = true := by rw [h3]; simp
                      clear h1 h2 h3
                      go_wp2
                      go_ret
                      exact ⟨congrArg (fun b => Ending.returned (Value.bool b)) HF.out.symm, L7.out⟩
                    · have HF := Lib.hid (dec_false (fun h => h3 (HP.out.1 (NOT.out h) h1).1))
                      have n1 : (r.name.toList == x.toList) = false := text_ne h3
                      have n2 : (r.name.data.toList == x.data.toList) = false := text_ne2 h3
                      clear h1 h2 h3
                      go_wp2
                      go_ret
                      exact ⟨congrArg (fun b => Ending.returned (Value.bool b)) HF.out.symm, L7.out⟩
                  · have HF := Lib.hid (dec_false (fun h => h2 (HP.out.1 (NOT.out h) h1).2))
                    have t2 : (r.ty == 2) = false := by simpa using h2
                    clear h1 h2
                    go_wp2
                    go_ret
                    exact ⟨congrArg (fun b => Ending.returned (Value.bool b)) HF.out.symm, L7.out⟩

end Go.Proofs.YtkpcanigdppegaaDoor.RecZ1

/- What ZoneOk does in the model. Condition: fewer than 400000001 records, of at most 400000000 bytes a text. -/
namespace Go.Proofs.YtkpcanigdppegaaDoor.ZokS
open Go.RowKit Go.Proofs.YtkpcanigdppegaaDoor.Mem Go.Proofs.YtkpcanigdppegaaDoor.MemR Go.Proofs.YtkpcanigdppegaaDoor.SetMath Go.Proofs.YtkpcanigdppegaaDoor.NameMath Go.Proofs.YtkpcanigdppegaaDoor.NameOk Go.Proofs.YtkpcanigdppegaaDoor.ZoneMath Go.Proofs.YtkpcanigdppegaaDoor.MemZ Go.Proofs.YtkpcanigdppegaaDoor.RecOk Go.Proofs.YtkpcanigdppegaaDoor.LessR Go.Proofs.YtkpcanigdppegaaDoor.ZokMath Go.Proofs.YtkpcanigdppegaaDoor.Labels Go.Proofs.YtkpcanigdppegaaDoor.BoxR Go.Proofs.YtkpcanigdppegaaDoor.AliI Go.Proofs.YtkpcanigdppegaaDoor.Under

theorem record (s : ByteArray) (b0 o0 n c : Nat) (l : List Rec) (w : World) (hs : Sr w w.heap.size (some ⟨b0, o0, none⟩) n l) (hn : n ≤ 400000000) (hm : s.size ≤ 400000000) (hz : ∀ r ∈ l, Mod r) (k : Nat) (hk : k < n) :
    Calls Tryd.prog 53 #[.agg #[.string s, .slice (some ⟨b0, o0, none⟩) n c], .int .i64 (k : Int)] w fun e w' => e = .returned (.bool (dec (Ps s l k))) ∧ Below w.heap.size w w' := by
  cases k with
  | zero => exact RecZ0.spec s b0 o0 n c l w hs hn hm hz hk
  | succ q =>
    rw [show ((q + 1 : Nat) : Int) = (q : Int) + 1 by omega]
    exact RecZ1.spec s b0 o0 n c l w hs hn hm hz q hk

set_option maxHeartbeats 8000000 in
theorem spec (s : ByteArray) (b0 o0 n c : Nat) (l : List Rec) (w : World) (hs : Sr w w.heap.size (some ⟨b0, o0, none⟩) n l) (hn : n ≤ 400000000) (hm : s.size ≤ 400000000) (hz : ∀ r ∈ l, Mod r) :
    Calls Tryd.prog 22 #[.agg #[.string s, .slice (some ⟨b0, o0, none⟩) n c]] w fun e w' => e = .returned (.bool (zok s l)) ∧ Below w.heap.size w w' := by
  have Z0 := Lib.hid (zx_new w 26 s (.slice (some ⟨b0, o0, none⟩) n c))
  have L0 := Lib.hid ((Below.refl w.heap.size w).alloc (Nat.le_refl _) (.cells #[.string s, .slice (some ⟨b0, o0, none⟩) n c] 26))
  have HS := Lib.hid hs
  have RC : Hid (∀ (W : World) (k : Nat), Below w.heap.size w W → k < n → Calls Tryd.prog 53 #[.agg #[.string s, .slice (some ⟨b0, o0, none⟩) n c], .int .i64 (k : Int)] W fun e w' => e = .returned (.bool (dec (Ps s l k))) ∧ Below W.heap.size W w') := fun W k hW hk => record s b0 o0 n c l W (hs.on hW) hn hm hz k hk
  have NO := Lib.hid (fun W => NameOk.spec s W hm)
  have HZK : Hid (Zok s l ↔ (Nm s = true ∧ l.length ≤ 20) ∧ Alln l.length (Ps s l) ∧ n6 l = 1 ∧ 0 < (sf s 2 l).length) := Iff.rfl
  have HV : Hid (zok s l = dec (Zok s l)) := rfl
  clear hs hz
  generalize zok s l = v at *
  generalize Zok s l = ZK at *
  obtain ⟨z0, z1⟩ := Z0.out
  go_enter Tryd.func22, Tryd.ntmps22
  cases hnm : Nm s with
  | false =>
    have HF : Hid (v = false) := HV.out.trans (dec_false (fun h => by have := (HZK.out.1 h).1.1; rw [hnm] at this; cases this))
    rw [hnm] at NO
    clear hnm
    go_wp2_with fail
    refine (NO.out _).mono ?_
    rintro e w1 ⟨rfl, hl⟩
    have L1 := Lib.hid (L0.out.trans (hl.mono L0.out.size))
    clear hl NO
    go_wp2
    go_ret
    exact ⟨congrArg (fun b => Ending.returned (Value.bool b)) HF.out.symm, L1.out⟩
  | true =>
    rw [hnm] at NO
    go_wp2_with fail
    refine (NO.out _).mono ?_
    rintro e w1 ⟨rfl, hl⟩
    have L1 := Lib.hid (L0.out.trans (hl.mono L0.out.size))
    have X1 := Lib.hid (Z0.out.below hl)
    clear hl NO L0 Z0 z0 z1
    obtain ⟨z0, z1⟩ := X1.out
    by_cases h20 : ¬ n ≤ 20
    · have HF : Hid (v = false) := HV.out.trans (dec_false (fun h => h20 (by rw [← HS.out.1]; exact (HZK.out.1 h).1.2)))
      have g0 : (20 : Int) < (n : Int) := by omega
      clear hnm
      go_wp2
      go_ret
      exact ⟨congrArg (fun b => Ending.returned (Value.bool b)) HF.out.symm, L1.out⟩
    have g0 : ¬ (20 : Int) < (n : Int) := by omega
    have HV2 : Hid (v = dec (Alln l.length (Ps s l) ∧ n6 l = 1 ∧ 0 < (sf s 2 l).length)) := HV.out.trans (dec_same ⟨fun h => (HZK.out.1 h).2, fun h => HZK.out.2 ⟨⟨hnm, by rw [HS.out.1]; omega⟩, h⟩⟩)
    clear hnm HV HZK
    go_wp2
    clear z0 z1
    go_loopw [3, 4, 5] (fun p q i wr => ∃ k a b : Nat, k ≤ n ∧ i = .int .i64 k ∧ p = .int .i64 a ∧ q = .int .i64 b ∧ n6 (l.take k) = a ∧ (sf s 2 (l.take k)).length = b ∧ Hid (Alln k (Ps s l)) ∧ Hid (Zx wr w.heap.size s (.slice (some ⟨b0, o0, none⟩) n c)) ∧ Hid (Below w.heap.size w wr)) (fun _ _ i _ => n - (intOf i).toNat)
    case atStart => exact ⟨0, 0, 0, Nat.zero_le _, rfl, rfl, rfl, by simp [n6], by simp [sf], alln_zero, X1.out, L1.out⟩
    case round =>
      clear X1 L1
      obtain ⟨k, a, b, hk, rfl, rfl, rfl, ha, hb, HQ, HX, HL⟩ := hrel
      have ha2 : a ≤ 400000000 := by have := n6_le (l.take k); simp at this; omega
      have hb2 : b ≤ 400000000 := by have := sf_len_take s 2 l k; omega
      have H6 := Lib.hid ha
      have H2 := Lib.hid hb
      clear ha hb
      obtain ⟨z0, z1⟩ := HX.out
      by_cases hlt : k < n
      · obtain ⟨bb, off, hA, hbB, hcs⟩ := HS.out.2 (by omega)
        obtain ⟨rfl, rfl⟩ : b0 = bb ∧ o0 = off := by simp at hA; exact hA
        clear hA
        have hkl : k < l.length := by rw [HS.out.1]; exact hlt
        have HC := Lib.hid (hcs k hkl)
        have N6 := Lib.hid (n6_take l k hkl)
        have N2 := Lib.hid (n2_take s l k hkl)
        clear hcs
        generalize l[k] = r at *
        have RK := Lib.hid (RC.out wr k HL.out hlt)
        cases hp : dec (Ps s l k) with
        | false =>
          have HF : Hid (v = false) := HV2.out.trans (dec_false (fun h => dec_no hp (h.1 k hkl)))
          rw [hp] at RK
          clear hp
          go_wp2_with fail
          refine RK.out.mono ?_
          rintro e w1 ⟨rfl, hl⟩
          have L1 := Lib.hid (HL.out.trans (hl.mono HL.out.size))
          clear hl RK
          go_wp2
          go_ret
          exact ⟨congrArg (fun b => Ending.returned (Value.bool b)) HF.out.symm, L1.out⟩
        | true =>
          have HN := Lib.hid (alln_next HQ.out (dec_iff.1 hp))
          rw [hp] at RK
          clear hp
          go_wp2_with fail
          refine RK.out.mono ?_
          rintro e w1 ⟨rfl, hl⟩
          have L1 := Lib.hid (HL.out.trans (hl.mono HL.out.size))
          have X1 := Lib.hid (HX.out.below hl)
          clear hl RK HL HX z0 z1
          obtain ⟨z0, z1⟩ := X1.out
          obtain ⟨e0, e1, -, -, -, -⟩ := HC.out.below L1.out hbB
          by_cases h6 : r.ty = 6
          · have t6 : (r.ty == 6) = true := by simpa using h6
            have t2 : (r.ty == 2) = false := by simp; omega
            rw [if_pos h6] at N6
            rw [isk_false (fun h => by omega), if_neg (by decide), Nat.add_zero] at N2
            clear h6
            go_wp2
            go_quiet (fail)
            have L9 : Hid (Below w.heap.size w (w1.drewN nq)) := L1.out.trans (drewN_below _ _ _)
            have X9 : Hid (Zx (w1.drewN nq) w.heap.size s (.slice (some ⟨b0, o0, none⟩) n c)) := X1.out
            clear z0 z1 e0 e1 X1 L1
            generalize w1.drewN nq = w9 at *
            go_wp2
            go_roundw
            case rel => exact ⟨k + 1, a + 1, b, by omega, by go_num, by go_num, rfl, by have h1 := N6.out; have h2 := H6.out; omega, by have h1 := N2.out; have h2 := H2.out; omega, HN.out, X9.out, L9.out⟩
            case measure => simp [intOf]; omega
          have t6 : (r.ty == 6) = false := by simpa using h6
          rw [if_neg h6, Nat.add_zero] at N6
          by_cases h2 : r.ty = 2
          · have t2 : (r.ty == 2) = true := by simpa using h2
            by_cases hns : r.name = s
            · have n1 : (r.name.toList == s.toList) = true := by rw [hns]; simp
              have n2 : (r.name.data.toList == s.data.toList) = true := by rw [hns]; simp
              rw [isk_true ⟨hns, h2⟩, if_pos rfl] at N2
              clear h6 h2 hns
              go_wp2
              go_quiet (fail)
              have L9 : Hid (Below w.heap.size w (w1.drewN nq)) := L1.out.trans (drewN_below _ _ _)
              have X9 : Hid (Zx (w1.drewN nq) w.heap.size s (.slice (some ⟨b0, o0, none⟩) n c)) := X1.out
              clear z0 z1 e0 e1 X1 L1
              generalize w1.drewN nq = w9 at *
              go_wp2
              go_roundw
              case rel => exact ⟨k + 1, a, b + 1, by omega, by go_num, rfl, by go_num, by have h1 := N6.out; have h2 := H6.out; omega, by have h1 := N2.out; have h2 := H2.out; omega, HN.out, X9.out, L9.out⟩
              case measure => simp [intOf]; omega
            · have n1 : (r.name.toList == s.toList) = false := text_ne hns
              have n2 : (r.name.data.toList == s.data.toList) = false := text_ne2 hns
              rw [isk_false (fun h => hns h.1), if_neg (by decide), Nat.add_zero] at N2
              clear h6 h2 hns
              go_wp2
              go_quiet (fail)
              have L9 : Hid (Below w.heap.size w (w1.drewN nq)) := L1.out.trans (drewN_below _ _ _)
              have X9 : Hid (Zx (w1.drewN nq) w.heap.size s (.slice (some ⟨b0, o0, none⟩) n c)) := X1.out
              clear z0 z1 e0 e1 X1 L1
              generalize w1.drewN nq = w9 at *
              go_wp2
              go_roundw
              case rel => exact ⟨k + 1, a, b, by omega, by go_num, rfl, rfl, by have h1 := N6.out; have h2 := H6.out; omega, by have h1 := N2.out; have h2 := H2.out; omega, HN.out, X9.out, L9.out⟩
              case measure => simp [intOf]; omega
          · have t2 : (r.ty == 2) = false := by simpa using h2
            rw [isk_false (fun h => h2 h.2), if_neg (by decide), Nat.add_zero] at N2
            clear h6 h2
            go_wp2
            go_quiet (fail)
            have L9 : Hid (Below w.heap.size w (w1.drewN nq)) := L1.out.trans (drewN_below _ _ _)
            have X9 : Hid (Zx (w1.drewN nq) w.heap.size s (.slice (some ⟨b0, o0, none⟩) n c)) := X1.out
            clear z0 z1 e0 e1 X1 L1
            generalize w1.drewN nq = w9 at *
            go_wp2
            go_roundw
            case rel => exact ⟨k + 1, a, b, by omega, by go_num, rfl, rfl, by have h1 := N6.out; have h2 := H6.out; omega, by have h1 := N2.out; have h2 := H2.out; omega, HN.out, X9.out, L9.out⟩
            case measure => simp [intOf]; omega
      · obtain rfl : n = k := by omega
        rw [take_all HS.out.1] at H6 H2
        have HV3 : Hid (v = dec (a = 1 ∧ 0 < b)) := HV2.out.trans (dec_same ⟨fun h => by rw [← H6.out, ← H2.out]; exact h.2, fun h => ⟨by rw [HS.out.1]; exact HQ.out, by rw [H6.out, H2.out]; exact h⟩⟩)
        by_cases h1 : a = 1
        · have t1 : ((a : Int) == 1) = true := by simp; omega
          by_cases h2 : 0 < b
          · have HF : Hid (v = true) := HV3.out.trans (dec_true ⟨h1, h2⟩)
            have t2 : (0 : Int) < (b : Int) := by omega
            go_wp2
            go_ret
            exact ⟨congrArg (fun b => Ending.returned (Value.bool b)) HF.out.symm, HL.out⟩
          · have HF : Hid (v = false) := HV3.out.trans (dec_false (fun h => h2 h.2))
            have t2 : ¬ (0 : Int) < (b : Int) := by omega
            go_wp2
            go_ret
            exact ⟨congrArg (fun b => Ending.returned (Value.bool b)) HF.out.symm, HL.out⟩
        · have HF : Hid (v = false) := HV3.out.trans (dec_false (fun h => h1 h.1))
          have t1 : ((a : Int) == 1) = false := by simp; omega
          go_wp2
          go_ret
          exact ⟨congrArg (fun b => Ending.returned (Value.bool b)) HF.out.symm, HL.out⟩

end Go.Proofs.YtkpcanigdppegaaDoor.ZokS
