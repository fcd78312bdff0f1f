/- The keys of the program's maps: texts, ints, questions, records: of which the laws on maps may be asked. -/
import Derived.Test.YtkpcanigdppegaaDoorZoneMath
import Derived.Test.YtkpcanigdppegaaDoorMemZ
import Derived.Test.YtkpcanigdppegaaDoorZonesP1
import Derived.Test.YtkpcanigdppegaaDoorZokMath
import Derived.Test.YtkpcanigdppegaaDoorLabSpec
import Derived.Test.YtkpcanigdppegaaDoorNameMath
import Derived.Test.YtkpcanigdppegaaDoorShelf
import Derived.Test.YtkpcanigdppegaaDoorSetMath
import Derived.Deep.AppendLies
import Derived.Test.YtkpcanigdppegaaDoorEqlR
import Derived.WideKeyArgs2
import Derived.Laws.StructEq
/- What CutsOf does in the model: the names of the cuts, each once. Condition: fewer than 400000001 records, no name of more than 400000000 bytes. -/
namespace Go.Proofs.YtkpcanigdppegaaDoor.CutsS
open Go.RowKit Go.Proofs.YtkpcanigdppegaaDoor.Mem Go.Proofs.YtkpcanigdppegaaDoor.MemR Go.Proofs.YtkpcanigdppegaaDoor.BoxR Go.Proofs.YtkpcanigdppegaaDoor.SetMath Go.Proofs.YtkpcanigdppegaaDoor.NameMath Go.Proofs.YtkpcanigdppegaaDoor.ZoneMath Go.Proofs.YtkpcanigdppegaaDoor.MemZ Go.Proofs.YtkpcanigdppegaaDoor.Isin Go.Proofs.YtkpcanigdppegaaDoor.MemS Go.Proofs.YtkpcanigdppegaaDoor.AppS Go.Proofs.YtkpcanigdppegaaDoor.HostS

set_option maxHeartbeats 8000000 in
theorem spec (s : ByteArray) (b0 o0 n c : Nat) (l : List Rec) (w : World) (hs : Sr w w.heap.size (some ⟨b0, o0, none⟩) n l) (hn : n ≤ 400000000) (hm : s.size ≤ 400000000) (hz : ∀ r ∈ l, r.name.size ≤ 400000000) :
    Calls Tryd.prog 28 #[.agg #[.string s, .slice (some ⟨b0, o0, none⟩) n c]] w (GivesS w (uq (cn s l))) := by
  obtain ⟨i0, hi, hz0, hz1, hz2⟩ := info_parts info
  have Z0 := Lib.hid ((zx_new w 26 s (.slice (some ⟨b0, o0, none⟩) n c)).alloc (.cells #[] 9))
  have L0 := Lib.hid (((Below.refl w.heap.size w).alloc (Nat.le_refl _) (.cells #[.string s, .slice (some ⟨b0, o0, none⟩) n c] 26)).alloc (by simp) (.cells #[] 9))
  have P0 := Lib.hid (owns_new (w.alloc (.cells #[.string s, .slice (some ⟨b0, o0, none⟩) n c] 26)))
  rw [show (w.alloc (.cells #[.string s, .slice (some ⟨b0, o0, none⟩) n c] 26)).heap.size = w.heap.size + 1 by simp] at P0
  have HS := Lib.hid hs
  have HZ := Lib.hid hz
  clear hs hz
  go_enter Tryd.func28, Tryd.ntmps28
  go_wp2
  generalize (w.alloc (.cells #[.string s, .slice (some ⟨b0, o0, none⟩) n c] 26)).alloc (.cells #[] 9) = w0 at *
  go_loopw [3, 4] (fun out i wr => ∃ k g m cap : Nat, k ≤ n ∧ m ≤ k ∧ i = .int .i64 k ∧ out = .slice (some ⟨g, 0, none⟩) m cap ∧ Hid (wr.ownsRow (w.heap.size + 1) 9 1 (.slice (some ⟨g, 0, none⟩) m cap) m ((uq (cn s (l.take k))).map tv)) ∧ Hid (Zx wr w.heap.size s (.slice (some ⟨b0, o0, none⟩) n c)) ∧ Hid (Below w.heap.size w wr)) (fun _ i _ => n - (intOf i).toNat)
  case atStart => exact ⟨0, w.heap.size + 1, 0, 0, Nat.zero_le _, Nat.le_refl _, rfl, rfl, P0.out, Z0.out, L0.out⟩
  case round =>
    clear Z0 L0 P0
    obtain ⟨k, g, m, cap, hk, hm', rfl, rfl, HO, HX, HL⟩ := hrel
    obtain ⟨z0, z1⟩ := HX.out
    have ltz := HX.out.lt
    by_cases hlt : k < n
    · obtain ⟨b, off, hA, hbB, hcs⟩ := HS.out.2 (by omega)
      obtain ⟨rfl, rfl⟩ : b0 = b ∧ o0 = off := by simp at hA; exact hA
      clear hA
      have hkl : k < l.length := by rw [HS.out.1]; exact hlt
      obtain ⟨e0, e1, e2, e3, e4, e5⟩ := (hcs k hkl).below HL.out hbB
      clear hcs
      have HT := Lib.hid (cn_take s l k hkl)
      have HM := Lib.hid (HZ.out _ (List.getElem_mem hkl))
      generalize l[k] = r at *
      have R0 := Lib.hid (bx_new wr 39 r)
      have O0 := Lib.hid (HO.out.alloc (.cells #[.string r.name, .int .i64 r.ty, .int .i64 r.ttl, .int .i64 r.n, .string r.host, .string r.text] 39))
      have X0 := Lib.hid (HX.out.alloc (.cells #[.string r.name, .int .i64 r.ty, .int .i64 r.ttl, .int .i64 r.n, .string r.host, .string r.text] 39))
      have L0 := Lib.hid (HL.out.alloc HL.out.size (.cells #[.string r.name, .int .i64 r.ty, .int .i64 r.ttl, .int .i64 r.n, .string r.host, .string r.text] 39))
      by_cases hty : ¬ r.ty = 2
      · have HA := Lib.hid (show uq (cn s (l.take (k + 1))) = uq (cn s (l.take k)) from by rw [HT.out, isc_false (fun h => hty h.1), if_neg (by decide), List.append_nil])
        have t0 : (r.ty == 2) = false := by simpa using hty
        clear hty
        go_wp2
        go_roundw
        case rel => exact ⟨k + 1, g, m, cap, by omega, by omega, by go_num, rfl, by rw [HA.out]; exact O0.out, X0.out, L0.out⟩
        case measure => simp [intOf]; omega
      replace hty : r.ty = 2 := Classical.not_not.1 hty
      have t0 : (r.ty == 2) = true := by simpa using hty
      by_cases hnm : r.name = s
      · have HA := Lib.hid (show uq (cn s (l.take (k + 1))) = uq (cn s (l.take k)) from by rw [HT.out, isc_false (fun h => h.2.1 hnm), if_neg (by decide), List.append_nil])
        have t1 : (r.name.toList == s.toList) = true := by rw [hnm]; simp
        have t2 : (r.name.data.toList == s.data.toList) = true := by rw [hnm]; simp
        clear hty hnm
        go_wp2
        go_roundw
        case rel => exact ⟨k + 1, g, m, cap, by omega, by omega, by go_num, rfl, by rw [HA.out]; exact O0.out, X0.out, L0.out⟩
        case measure => simp [intOf]; omega
      have t1 : (r.name.toList == s.toList) = false := bytes_ne hnm
      have t2 : (r.name.data.toList == s.data.toList) = false := by rw [← ByteArray.toList_eq, ← ByteArray.toList_eq]; exact t1
      have US := Lib.hid (fun W => Under.spec r.name s W HM.out hm)
      have HU : Hid (Un r.name s = true → uq (cn s (l.take (k + 1))) = add (uq (cn s (l.take k))) r.name) := fun hu => by rw [HT.out, isc_true ⟨hty, hnm, hu⟩, if_pos rfl, uq_snoc]
      have HV : Hid (Un r.name s = false → uq (cn s (l.take (k + 1))) = uq (cn s (l.take k))) := fun hu => by rw [HT.out, isc_false (fun h => by rw [hu] at h; exact absurd h.2.2 (by decide)), if_neg (by decide), List.append_nil]
      generalize Un r.name s = u at *
      clear hty hnm HT
      have HZ2 : Hid ((uq (cn s (l.take k))).length = m) := show _ = _ by have := HO.out.1; simpa using this
      have SS : Hid (∀ W : World, W.ownsRow (w.heap.size + 1) 9 1 (.slice (some ⟨g, 0, none⟩) m cap) m ((uq (cn s (l.take k))).map tv) → Calls Tryd.prog 55 #[.slice (some ⟨g, 0, none⟩) m cap, .string r.name] W fun e w' => e = .returned (.bool (isin (uq (cn s (l.take k))) (r.name))) ∧ Below W.heap.size W w') :=
        fun W O => has _ m cap (uq (cn s (l.take k))) (r.name) W (show Ss W W.heap.size (some ⟨g, 0, none⟩) m (uq (cn s (l.take k))) from by obtain ⟨r', hb, _, _⟩ := bk_of_owns O; exact bk_ssw hb HZ2.out) (by omega)
      go_wp2_with fail
      refine (US.out _).mono ?_
      rintro e w1 ⟨rfl, hl⟩
      have L1 := Lib.hid (L0.out.trans (hl.mono L0.out.size))
      have X1 := Lib.hid (X0.out.below hl)
      have R1 := Lib.hid (R0.out.below hl)
      have O1 := Lib.hid (O0.out.kept (grown_of_below hl none) (Or.inr (fun e => by cases e)))
      clear hl US z0 z1 e0 e1 e2 e3 e4 e5 L0 X0 R0 O0
      obtain ⟨z0, z1⟩ := X1.out
      obtain ⟨r0, r1, r2, r3, r4, r5⟩ := R1.out
      cases u with
      | false =>
        have HA := Lib.hid (HV.out rfl)
        go_wp2
        go_roundw
        case rel => exact ⟨k + 1, g, m, cap, by omega, by omega, by go_num, rfl, by rw [HA.out]; exact O1.out, X1.out, L1.out⟩
        case measure => simp [intOf]; omega
      | true =>
        have HB := Lib.hid (HU.out rfl)
        clear HU HV
        go_wp2_with fail
        refine (SS.out _ O1.out).mono ?_
        rintro e w2 ⟨rfl, hl⟩
        have L2 := Lib.hid (L1.out.trans (hl.mono L1.out.size))
        have X2 := Lib.hid (X1.out.below hl)
        have R2 := Lib.hid (R1.out.below hl)
        have O2 := Lib.hid (O1.out.kept (grown_of_below hl none) (Or.inr (fun e => by cases e)))
        clear hl SS z0 z1 r0 r1 r2 r3 r4 r5 L1 X1 R1 O1
        obtain ⟨z0, z1⟩ := X2.out
        obtain ⟨r0, r1, r2, r3, r4, r5⟩ := R2.out
        by_cases hin : r.name ∈ uq (cn s (l.take k))
        · have HA := Lib.hid (HB.out.trans (add_in hin))
          have HC := Lib.hid (isin_true hin)
          clear hin
          rw [HC.out]
          go_wp2
          go_roundw
          case rel => exact ⟨k + 1, g, m, cap, by omega, by omega, by go_num, rfl, by rw [HA.out]; exact O2.out, X2.out, L2.out⟩
          case measure => simp [intOf]; omega
        · have HA := Lib.hid (HB.out.trans (add_out hin))
          have HC := Lib.hid (isin_false hin)
          clear hin
          have gge : w.heap.size + 1 ≤ g := by obtain ⟨r', _, _, h⟩ := bk_of_owns O2.out; exact h
          rw [HC.out]
          go_wp2_with (at_builtin; refine append_one (w := w2) rfl (.tmp 43) (.tmp 46) 33 rfl (w.heap.size + 1) 9 i0 _ Tryd.underlying33 hi hz0 hz1 hz2 rfl g m cap (uq (cn s (l.take k))) rfl O2.out r.name rfl (by omega) (by have h1 := O2.out.lt g rfl; omega) ?_)
          intro g' cap' w3 hown hgrow
          have O3 := Lib.hid hown
          have X3 := Lib.hid ((X2.out.alloc (.cells #[.string r.name] 9)).grown hgrow (fun e => by have := Option.some.inj e; omega))
          have L3 := Lib.hid ((L2.out.alloc L2.out.size (.cells #[.string r.name] 9)).grown hgrow (Nat.le_trans L2.out.size (by simp)) (fun j hj => by cases hj; omega))
          clear hown hgrow
          go_wp2
          go_roundw
          case rel => exact ⟨k + 1, g', m + 1, cap', by omega, by omega, by go_num, rfl, by rw [HA.out, List.map_append]; exact O3.out, X3.out, L3.out⟩
          case measure => simp [intOf]; omega
    · obtain rfl : n = k := by omega
      have HN := Lib.hid (take_all HS.out.1)
      go_wp2
      go_ret
      have ho := HO.out
      rw [HN.out] at ho
      obtain ⟨r', hb, hc, hg⟩ := bk_of_owns ho
      exact ⟨g, m, cap, r', rfl, by have := ho.1; simpa using this, by rw [← hc, List.length_append]; have := ho.1; omega, by omega, hb, HL.out⟩
end Go.Proofs.YtkpcanigdppegaaDoor.CutsS

/- What CutOf and InZone do in the model. Condition: fewer than 400000001 records, no name of more than 400000000 bytes. -/
namespace Go.Proofs.YtkpcanigdppegaaDoor.CutOfS
open Go.RowKit Go.Proofs.YtkpcanigdppegaaDoor.Mem Go.Proofs.YtkpcanigdppegaaDoor.MemR Go.Proofs.YtkpcanigdppegaaDoor.BoxR Go.Proofs.YtkpcanigdppegaaDoor.SetMath Go.Proofs.YtkpcanigdppegaaDoor.NameMath Go.Proofs.YtkpcanigdppegaaDoor.ZoneMath Go.Proofs.YtkpcanigdppegaaDoor.MemZ Go.Proofs.YtkpcanigdppegaaDoor.MemS Go.Proofs.YtkpcanigdppegaaDoor.AppS

set_option maxHeartbeats 8000000 in
theorem spec (s nm : ByteArray) (b0 o0 n c : Nat) (l : List Rec) (w : World) (hs : Sr w w.heap.size (some ⟨b0, o0, none⟩) n l) (hn : n ≤ 400000000) (hm : s.size ≤ 400000000) (hq : nm.size ≤ 400000000) (hz : ∀ r ∈ l, r.name.size ≤ 400000000) :
    Calls Tryd.prog 19 #[.agg #[.string s, .slice (some ⟨b0, o0, none⟩) n c], .string nm] w fun e w' => e = .returned (cv (co nm (uq (cn s l)))) ∧ Below w.heap.size w w' := by
  have L0 := Lib.hid ((Below.refl w.heap.size w).alloc (Nat.le_refl _) (.cells #[.string s, .slice (some ⟨b0, o0, none⟩) n c] 26))
  have X0 := Lib.hid (zx_new w 26 s (.slice (some ⟨b0, o0, none⟩) n c))
  have CS := Lib.hid (fun W hW => CutsS.spec s b0 o0 n c l W hW hn hm hz)
  have S0 := Lib.hid (hs.on L0.out)
  have HLN : Hid ((uq (cn s l)).length ≤ 400000000) := by show _ ≤ _; have h1 := len_uq (cn s l); have h2 := cn_len s l; have := hs.1; omega
  have HZ : Hid (∀ x ∈ uq (cn s l), x.size ≤ 400000000) := fun x hx => by obtain ⟨r, hr, rfl⟩ := cn_mem (mem_uq.1 hx); exact hz r hr
  clear hs hz
  generalize uq (cn s l) = L at *
  obtain ⟨x0, x1⟩ := X0.out
  go_enter Tryd.func19, Tryd.ntmps19
  go_wp2_with fail
  refine (CS.out _ S0.out).mono ?_
  rintro e w1 ⟨g, m, cap, r', rfl, hlm, hmc, hg, hb, hl⟩
  have HM := Lib.hid hlm
  have hm' : m ≤ 400000000 := by have := HLN.out; omega
  have B1 := Lib.hid hb
  have L1 := Lib.hid (L0.out.trans (hl.mono L0.out.size))
  clear hlm hmc hg hb hl CS S0 X0 L0 x0 x1 HLN
  go_wp2
  go_loopw [7] (fun i wr => ∃ k : Nat, k ≤ m ∧ i = .int .i64 k ∧ Hid (co nm (L.take k) = none) ∧ Hid (Bk wr g 9 (L.map tv ++ r')) ∧ Hid (Below w.heap.size w wr)) (fun i _ => m - (intOf i).toNat)
  case atStart => exact ⟨0, Nat.zero_le _, rfl, rfl, B1.out, L1.out⟩
  case round =>
    clear B1 L1
    obtain ⟨k, hk, rfl, HE, HB, HL⟩ := hrel
    by_cases hlt : k < m
    · have hkl : k < L.length := by rw [HM.out]; exact hlt
      have e0 : wr.cell? ⟨g, k, none⟩ = some (.string L[k]) := by
        rw [HB.out.cell, List.getElem?_append_left (by rw [List.length_map]; exact hkl), tv_get]
      have HH := Lib.hid (fun e => co_hit nm L k hkl e HE.out)
      have HN := Lib.hid (fun e => co_next nm L k hkl e HE.out)
      have HY := Lib.hid (HZ.out _ (List.getElem_mem hkl))
      generalize L[k] = y at *
      have US := Lib.hid (fun W => Under.spec nm y W hq HY.out)
      generalize Un nm y = u at *
      go_wp2_with fail
      refine (US.out _).mono ?_
      rintro e w2 ⟨rfl, hl⟩
      have e1 : w2.cell? ⟨g, k, none⟩ = some (.string y) := (hl.cell (p := ⟨g, k, none⟩) HB.out.lt).trans e0
      have B2 := Lib.hid (HB.out.below hl HB.out.lt)
      have L2 := Lib.hid (HL.out.trans (hl.mono HL.out.size))
      clear hl US e0
      cases u with
      | true =>
        have HF := Lib.hid (HH.out rfl)
        clear HH HN
        go_wp2
        go_ret2
        exact ⟨congrArg (fun b => Ending.returned (cv b)) HF.out.symm, L2.out⟩
      | false =>
        have HF := Lib.hid (HN.out rfl)
        clear HH HN
        go_wp2
        go_roundw
        case rel => exact ⟨k + 1, by omega, by go_num, HF.out, B2.out, L2.out⟩
        case measure => simp [intOf]; omega
    · obtain rfl : m = k := by omega
      have HF : Hid (co nm L = none) := by rw [take_all HM.out] at HE; exact HE
      go_wp2
      go_ret2
      exact ⟨congrArg (fun b => Ending.returned (cv b)) HF.out.symm, HL.out⟩

/-- A name is in the zone. -/
noncomputable def iz (s nm : ByteArray) (l : List Rec) : Bool := Un nm s && !(co nm (uq (cn s l))).isSome

set_option maxHeartbeats 4000000 in
theorem specIn (s nm : ByteArray) (b0 o0 n c : Nat) (l : List Rec) (w : World) (hs : Sr w w.heap.size (some ⟨b0, o0, none⟩) n l) (hn : n ≤ 400000000) (hm : s.size ≤ 400000000) (hq : nm.size ≤ 400000000) (hz : ∀ r ∈ l, r.name.size ≤ 400000000) :
    Calls Tryd.prog 29 #[.agg #[.string s, .slice (some ⟨b0, o0, none⟩) n c], .string nm] w fun e w' => e = .returned (.bool (iz s nm l)) ∧ Below w.heap.size w w' := by
  have L0 := Lib.hid ((Below.refl w.heap.size w).alloc (Nat.le_refl _) (.cells #[.string s, .slice (some ⟨b0, o0, none⟩) n c] 26))
  have X0 := Lib.hid (zx_new w 26 s (.slice (some ⟨b0, o0, none⟩) n c))
  have CS := Lib.hid (fun W hW => spec s nm b0 o0 n c l W hW hn hm hq hz)
  have US := Lib.hid (fun W => Under.spec nm s W hq hm)
  have S0 := Lib.hid (hs.on L0.out)
  clear hs hz
  have HV : Hid (iz s nm l = (Un nm s && !(co nm (uq (cn s l))).isSome)) := rfl
  generalize iz s nm l = v at *
  generalize co nm (uq (cn s l)) = o at *
  generalize Un nm s = u at *
  obtain ⟨x0, x1⟩ := X0.out
  cases o with
  | none =>
    replace CS : Hid (∀ W, Sr W W.heap.size (some ⟨b0, o0, none⟩) n l → Calls Tryd.prog 19 #[.agg #[.string s, .slice (some ⟨b0, o0, none⟩) n c], .string nm] W fun e w' => e = .returned (.tuple #[.string ⟨#[]⟩, .bool false]) ∧ Below W.heap.size W w') := CS
    go_enter Tryd.func29, Tryd.ntmps29
    go_wp2_with fail
    refine (CS.out _ S0.out).mono ?_
    rintro e w1 ⟨rfl, hl⟩
    have X1 := Lib.hid (X0.out.below hl)
    have L1 := Lib.hid (L0.out.trans (hl.mono L0.out.size))
    clear hl CS S0 L0 X0 x0 x1
    obtain ⟨x0, x1⟩ := X1.out
    go_wp2_with fail
    refine (US.out _).mono ?_
    rintro e w2 ⟨rfl, hl⟩
    have L2 := Lib.hid (L1.out.trans (hl.mono L1.out.size))
    clear hl US x0 x1 X1
    have HF : Hid (v = u) := by show _ = _; rw [HV.out]; simp
    clear HV
    cases u with
    | true => go_wp2; go_ret; exact ⟨congrArg (fun b => Ending.returned (Value.bool b)) HF.out.symm, L2.out⟩
    | false => go_wp2; go_ret; exact ⟨congrArg (fun b => Ending.returned (Value.bool b)) HF.out.symm, L2.out⟩
  | some y =>
    replace CS : Hid (∀ W, Sr W W.heap.size (some ⟨b0, o0, none⟩) n l → Calls Tryd.prog 19 #[.agg #[.string s, .slice (some ⟨b0, o0, none⟩) n c], .string nm] W fun e w' => e = .returned (.tuple #[.string y, .bool true]) ∧ Below W.heap.size W w') := CS
    go_enter Tryd.func29, Tryd.ntmps29
    go_wp2_with fail
    refine (CS.out _ S0.out).mono ?_
    rintro e w1 ⟨rfl, hl⟩
    have X1 := Lib.hid (X0.out.below hl)
    have L1 := Lib.hid (L0.out.trans (hl.mono L0.out.size))
    clear hl CS S0 L0 X0 x0 x1
    obtain ⟨x0, x1⟩ := X1.out
    go_wp2_with fail
    refine (US.out _).mono ?_
    rintro e w2 ⟨rfl, hl⟩
    have L2 := Lib.hid (L1.out.trans (hl.mono L1.out.size))
    clear hl US x0 x1 X1
    have HF : Hid (v = false) := by show _ = _; rw [HV.out]; simp
    clear HV
    cases u with
    | true => go_wp2; go_ret; exact ⟨congrArg (fun b => Ending.returned (Value.bool b)) HF.out.symm, L2.out⟩
    | false => go_wp2; go_ret; exact ⟨congrArg (fun b => Ending.returned (Value.bool b)) HF.out.symm, L2.out⟩
end Go.Proofs.YtkpcanigdppegaaDoor.CutOfS

/- Plain mathematics: what holds in a valid zone: where its apex, its cuts and its records lie. -/
namespace Go.Proofs.YtkpcanigdppegaaDoor.ZfMath
open Go.RowKit Go.Proofs.YtkpcanigdppegaaDoor.MemR Go.Proofs.YtkpcanigdppegaaDoor.SetMath Go.Proofs.YtkpcanigdppegaaDoor.NameMath Go.Proofs.YtkpcanigdppegaaDoor.Split Go.Proofs.YtkpcanigdppegaaDoor.ZoneMath Go.Proofs.YtkpcanigdppegaaDoor.ZokMath Go.Proofs.YtkpcanigdppegaaDoor.CutOfS

theorem un_trans {a b c : ByteArray} (h : Un a b = true) (k : Un b c = true) : Un a c = true :=
  (un_iff a c).2 (((un_iff b c).1 k).trans ((un_iff a b).1 h))

theorem un_anti {a b : ByteArray} (h : Un a b = true) (k : Un b a = true) : a = b := by
  have h1 := (un_iff a b).1 h
  have h2 := (un_iff b a).1 k
  exact lab_inj (h2.eq_of_length_le h1.length_le)

theorem cut_mem {s x : ByteArray} {l : List Rec} (h : x ∈ uq (cn s l)) : ∃ r ∈ l, r.name = x ∧ r.ty = 2 ∧ x ≠ s ∧ Un x s = true := by
  obtain ⟨r, hr, rfl⟩ := List.mem_map.1 (mem_uq.1 h)
  obtain ⟨h1, h2⟩ := List.mem_filter.1 hr
  have h3 : r.ty = 2 ∧ r.name ≠ s ∧ Un r.name s = true := Classical.byContradiction fun hn => by rw [isc_false hn] at h2; cases h2
  exact ⟨r, h1, rfl, h3⟩

theorem co_some {nm x : ByteArray} {L : List ByteArray} (h : co nm L = some x) : x ∈ L ∧ Un nm x = true :=
  ⟨List.mem_of_find?_eq_some h, List.find?_some h⟩

theorem cut_of {s nm x : ByteArray} {l : List Rec} (h : co nm (uq (cn s l)) = some x) : Un nm x = true ∧ x ≠ s ∧ Un x s = true ∧ Un nm s = true := by
  obtain ⟨h1, h2⟩ := co_some h
  obtain ⟨r, _, _, _, h3, h4⟩ := cut_mem h1
  exact ⟨h2, h3, h4, un_trans h2 h4⟩

theorem iz_none {s nm : ByteArray} {l : List Rec} (h : co nm (uq (cn s l)) = none) : iz s nm l = Un nm s := by
  unfold iz
  rw [h]
  simp

theorem iz_some {s nm x : ByteArray} {l : List Rec} (h : co nm (uq (cn s l)) = some x) : iz s nm l = false := by
  unfold iz
  rw [h]
  simp

theorem apex_in (s : ByteArray) (l : List Rec) : iz s s l = true := by
  cases h : co s (uq (cn s l)) with
  | none => rw [iz_none h]; exact un_self s
  | some x =>
    obtain ⟨h1, h2, h3, _⟩ := cut_of h
    exact absurd (un_anti h3 h1) h2

theorem cut_out {s x : ByteArray} {l : List Rec} (h : x ∈ uq (cn s l)) : iz s x l = false := by
  cases hc : co x (uq (cn s l)) with
  | none => exact absurd (List.find?_eq_none.1 hc x h) (by simp [un_self])
  | some y => exact iz_some hc

theorem cut_set {s x : ByteArray} {l : List Rec} (h : x ∈ uq (cn s l)) : 0 < (sf x 2 l).length := by
  obtain ⟨r, hr, hn, ht, _⟩ := cut_mem h
  exact List.length_pos_of_mem (List.mem_filter.2 ⟨hr, isk_true ⟨hn, ht⟩⟩)

theorem ex_self {r : Rec} {l : List Rec} (h : r ∈ l) : ex r.name l = true := by
  unfold ex
  exact List.any_eq_true.2 ⟨r, h, un_self _⟩

theorem ex_apex {s : ByteArray} {l : List Rec} (h : Zok s l) : ex s l = true := by
  have hm : ∃ r, r ∈ l := by
    have := h.2.2.1
    unfold n6 at this
    obtain ⟨r, hr⟩ := List.length_eq_one_iff.1 this
    exact ⟨r, (List.mem_filter.1 (by rw [hr]; exact List.mem_singleton.2 rfl : r ∈ l.filter (fun r => decide (r.ty = 6)))).1⟩
  obtain ⟨r, hr⟩ := hm
  obtain ⟨i, hi, rfl⟩ := mem_at0 hr
  unfold ex
  exact List.any_eq_true.2 ⟨_, hr, (h.2.1 i hi).1.2⟩

theorem rec_in {s : ByteArray} {l : List Rec} (h : Zok s l) {r : Rec} (hr : r ∈ l) : iz s r.name l = true ∨ r.ty = 2 ∨ r.ty = 1 := by
  obtain ⟨i, hi, rfl⟩ := mem_at0 hr
  have hp := h.2.1 i hi
  cases hc : co (at0 l i).name (uq (cn s l)) with
  | none => exact Or.inl (by rw [iz_none hc]; exact hp.1.2)
  | some c =>
    by_cases h1 : (at0 l i).ty = 1
    · exact Or.inr (Or.inr h1)
    · exact Or.inr (Or.inl (hp.2.2.2.2 c hc h1).2)

theorem start_apex {s : ByteArray} {l : List Rec} (h : Zok s l) : (st l).name = s := (zok_iff.1 h).2.2.2.1.1.1

end Go.Proofs.YtkpcanigdppegaaDoor.ZfMath

/- What recordsOk does in the program: at most so many records, all of them valid. Condition: fewer than 400000001 records, of at most 400000000 bytes a text. -/
namespace Go.Proofs.YtkpcanigdppegaaDoor.RecsOk
open Go.RowKit Go.Proofs.YtkpcanigdppegaaDoor.Mem Go.Proofs.YtkpcanigdppegaaDoor.MemR Go.Proofs.YtkpcanigdppegaaDoor.SetMath Go.Proofs.YtkpcanigdppegaaDoor.NameMath Go.Proofs.YtkpcanigdppegaaDoor.NameOk Go.Proofs.YtkpcanigdppegaaDoor.ZoneMath Go.Proofs.YtkpcanigdppegaaDoor.MemZ Go.Proofs.YtkpcanigdppegaaDoor.RecOk Go.Proofs.YtkpcanigdppegaaDoor.LessR Go.Proofs.YtkpcanigdppegaaDoor.ZokMath Go.Proofs.YtkpcanigdppegaaDoor.Labels

/-- At most m records, all valid. A def, so that no step of a walk opens it. -/
def Ro (m : Nat) (l : List Rec) : Prop := l.length ≤ m ∧ ∀ r ∈ l, rok r = true

set_option maxHeartbeats 4000000 in
theorem impl (m : Nat) (b0 o0 n c : Nat) (l : List Rec) (w : World) (hs : Sr w w.heap.size (some ⟨b0, o0, none⟩) n l) (hn : n ≤ 400000000) (he : Env w) (hm : ∀ r ∈ l, Mod r) :
    Calls Tryd.prog 39 #[.slice (some ⟨b0, o0, none⟩) n c, .int .i64 (m : Int)] w fun e w' => e = .returned (.bool (dec (Ro m l))) ∧ Below w.heap.size w w' := by
  have HE := Lib.hid he
  have HS := Lib.hid hs
  have HM := Lib.hid hm
  clear hs hm he
  by_cases h8 : ¬ n ≤ m
  · have h8' : (m : Int) < (n : Int) := by omega
    have HN : Hid (dec (Ro m l) = false) := dec_false (fun h => h8 (by rw [← HS.out.1]; exact h.1))
    go_enter Tryd.func39, Tryd.ntmps39
    go_wp2
    go_ret
    exact ⟨congrArg (fun b => Ending.returned (Value.bool b)) HN.out.symm, Below.refl _ _⟩
  have h8' : ¬ (m : Int) < (n : Int) := by omega
  go_enter Tryd.func39, Tryd.ntmps39
  go_wp2
  go_loopw [13] (fun i wr => ∃ k : Nat, k ≤ n ∧ i = .int .i64 k ∧ Hid (∀ r ∈ l.take k, rok r = true) ∧ Hid (Below w.heap.size w wr)) (fun i _ => n - (intOf i).toNat)
  case atStart => exact ⟨0, Nat.zero_le _, rfl, fun r hr => by simp at hr, Below.refl _ _⟩
  case round =>
    obtain ⟨k, hk, rfl, HK, HL⟩ := hrel
    by_cases hlt : k < n
    · obtain ⟨b, off, hA, hbB, hcs⟩ := HS.out.2 (by omega)
      obtain ⟨rfl, rfl⟩ : b0 = b ∧ o0 = off := by simp at hA; exact hA
      clear hA
      have hkl : k < l.length := by rw [HS.out.1]; exact hlt
      obtain ⟨e0, e1, e2, e3, e4, e5⟩ := (hcs k hkl).below HL.out hbB
      clear hcs
      have HR := Lib.hid (HM.out l[k] (List.getElem_mem hkl))
      have HIN : Hid (l[k] ∈ l) := List.getElem_mem hkl
      have HT := Lib.hid (List.take_succ_eq_append_getElem hkl)
      generalize l[k] = r at *
      have LA := Lib.hid (HL.out.alloc HL.out.size (.cells #[.string r.name, .int .i64 r.ty, .int .i64 r.ttl, .int .i64 r.n, .string r.host, .string r.text] 39))
      have CO := Lib.hid (fun W hW => RecOk.impl r W hW HR.out)
      cases hb : rok r with
      | false =>
        have HN : Hid (dec (Ro m l) = false) := dec_false (fun h => by have := h.2 r HIN.out; rw [hb] at this; cases this)
        rw [hb] at CO
        clear hb
        go_wp2_with fail
        refine (CO.out _ (HE.out.below LA.out)).mono ?_
        rintro e w1 ⟨rfl, hl⟩
        have L1 := Lib.hid (LA.out.trans (hl.mono LA.out.size))
        clear hl CO e0 e1 e2 e3 e4 e5
        go_wp2
        go_ret
        exact ⟨congrArg (fun b => Ending.returned (Value.bool b)) HN.out.symm, L1.out⟩
      | true =>
        have HN : Hid (∀ x ∈ l.take (k + 1), rok x = true) := fun x hx => by
          rw [HT.out, List.mem_append, List.mem_singleton] at hx
          rcases hx with hx | rfl
          · exact HK.out x hx
          · exact hb
        rw [hb] at CO
        clear hb
        go_wp2_with fail
        refine (CO.out _ (HE.out.below LA.out)).mono ?_
        rintro e w1 ⟨rfl, hl⟩
        have L1 := Lib.hid (LA.out.trans (hl.mono LA.out.size))
        clear hl CO e0 e1 e2 e3 e4 e5
        go_wp2
        go_roundw
        case rel => exact ⟨k + 1, by omega, by go_num, HN.out, L1.out⟩
        case measure => simp [intOf]; omega
    · obtain rfl : n = k := by omega
      have HF : Hid (dec (Ro m l) = true) := dec_true ⟨by rw [HS.out.1]; omega, by have := HK.out; rw [take_all HS.out.1] at this; exact this⟩
      go_wp2
      go_ret
      exact ⟨congrArg (fun b => Ending.returned (Value.bool b)) HF.out.symm, HL.out⟩

end Go.Proofs.YtkpcanigdppegaaDoor.RecsOk

/- What the program's Under does, by the library's proved contract of strings.HasSuffix: it tells whether the labels of its second text end those of its first. Condition: at most 400000000 bytes each. -/
namespace Go.Proofs.YtkpcanigdppegaaDoor.UnderImpl
open Go.RowKit Go.Proofs.YtkpcanigdppegaaDoor.Mem Go.Proofs.YtkpcanigdppegaaDoor.MemS Go.Proofs.YtkpcanigdppegaaDoor.Split Go.Proofs.YtkpcanigdppegaaDoor.NameMath

theorem hasSuffix (s p : ByteArray) (w : World) (hs : s.size ≤ 400000000) : Calls Tryd.prog 45 #[.string s, .string p] w fun e w' => e = .returned (.bool (Lib.hasSuffix s.data.toList p.data.toList)) ∧ w' = w :=
  Go.Proofs.Any.strings_HasSuffix Tryd.lays100 s p w (by omega)

set_option maxHeartbeats 1000000 in
theorem impl (a b : ByteArray) (w : World) (ha : a.size ≤ 400000000) (hb : b.size ≤ 400000000) : Calls Tryd.prog 12 #[.string a, .string b] w fun e w' => e = .returned (.bool (Un a b)) ∧ w = w' := by
  by_cases h0 : b.size = 0
  · have HU := Lib.hid (un_root (a := a) h0)
    obtain rfl : b = ⟨#[]⟩ := text_ext (List.eq_nil_of_length_eq_zero (by simpa using h0))
    clear h0 hb
    go_enter Tryd.func12, Tryd.ntmps12
    go_wp2
    go_ret
    rw [HU.out]
    exact ⟨rfl, rfl⟩
  · have hne : b.toList.isEmpty = false := Labels.not_empty b h0
    by_cases h : a = b
    · subst h
      have HU := Lib.hid (un_self a)
      clear h0
      go_enter Tryd.func12, Tryd.ntmps12
      go_wp2
      go_ret
      rw [HU.out]
      exact ⟨rfl, rfl⟩
    · have HU : Hid (Un a b = Lib.hasSuffix a.data.toList ((⟨#[46]⟩ : ByteArray) ++ b).data.toList) := by
        show _ = _
        rw [un_else h0 h, text_add]
        rfl
      have hq : (a.toList == b.toList) = false := by
        rw [beq_eq_false_iff_ne, ByteArray.toList_eq, ByteArray.toList_eq]
        exact fun e => h (text_ext e)
      have hq2 : (a.data.toList == b.data.toList) = false := by
        rw [beq_eq_false_iff_ne]
        exact fun e => h (text_ext e)
      clear h0 h
      have HS := Lib.hid (fun p w => hasSuffix a p w ha)
      go_enter Tryd.func12, Tryd.ntmps12
      go_wp2_with fail
      refine (HS.out _ w).mono ?_
      rintro e w1 ⟨rfl, rfl⟩
      go_wp2
      go_ret
      rw [HU.out]
      exact ⟨rfl, rfl⟩
end Go.Proofs.YtkpcanigdppegaaDoor.UnderImpl

/- What allUnder does in the program: it tells whether every record's name is under the apex. Condition: fewer than 400000001 records, no name of more than 400000000 bytes. -/
namespace Go.Proofs.YtkpcanigdppegaaDoor.AllU
open Go.RowKit Go.Proofs.YtkpcanigdppegaaDoor.Mem Go.Proofs.YtkpcanigdppegaaDoor.MemR Go.Proofs.YtkpcanigdppegaaDoor.SetMath Go.Proofs.YtkpcanigdppegaaDoor.NameMath Go.Proofs.YtkpcanigdppegaaDoor.NameOk Go.Proofs.YtkpcanigdppegaaDoor.ZoneMath Go.Proofs.YtkpcanigdppegaaDoor.MemZ Go.Proofs.YtkpcanigdppegaaDoor.RecOk Go.Proofs.YtkpcanigdppegaaDoor.LessR Go.Proofs.YtkpcanigdppegaaDoor.ZokMath Go.Proofs.YtkpcanigdppegaaDoor.Labels

set_option maxHeartbeats 4000000 in
theorem impl (s : ByteArray) (b0 o0 n c : Nat) (l : List Rec) (w : World) (hs : Sr w w.heap.size (some ⟨b0, o0, none⟩) n l) (hn : n ≤ 400000000) (hm : s.size ≤ 400000000) (hz : ∀ r ∈ l, r.name.size ≤ 400000000) :
    Calls Tryd.prog 40 #[.slice (some ⟨b0, o0, none⟩) n c, .string s] w fun e w' => e = .returned (.bool (dec (Alln l.length (Pu s l)))) ∧ Below w.heap.size w w' := by
  have HS := Lib.hid hs
  have HZ := Lib.hid hz
  clear hs hz
  go_enter Tryd.func40, Tryd.ntmps40
  go_wp2
  go_loopw [9] (fun i wr => ∃ k : Nat, k ≤ n ∧ i = .int .i64 k ∧ Hid (Alln k (Pu s l)) ∧ Hid (Below w.heap.size w wr)) (fun i _ => n - (intOf i).toNat)
  case atStart => exact ⟨0, Nat.zero_le _, rfl, alln_zero, Below.refl _ _⟩
  case round =>
    obtain ⟨k, hk, rfl, HE, HL⟩ := hrel
    by_cases hlt : k < n
    · obtain ⟨b, off, hA, hbB, hcs⟩ := HS.out.2 (by omega)
      obtain ⟨rfl, rfl⟩ : b0 = b ∧ o0 = off := by simp at hA; exact hA
      clear hA
      have hkl : k < l.length := by rw [HS.out.1]; exact hlt
      obtain ⟨e0, e1, e2, e3, e4, e5⟩ := (hcs k hkl).below HL.out hbB
      clear hcs
      have HP : Hid (Pu s l k ↔ Un l[k].name s = true) := show _ ↔ _ by rw [Pu, at0_get hkl]
      have HM := Lib.hid (HZ.out _ (List.getElem_mem hkl))
      generalize l[k] = r at *
      have W1 : Hid (Below w.heap.size w (wr.alloc (.cells #[.string r.name, .int .i64 r.ty, .int .i64 r.ttl, .int .i64 r.n, .string r.host, .string r.text] 39))) := HL.out.alloc HL.out.size _
      have US := Lib.hid (fun W => UnderImpl.impl r.name s W HM.out hm)
      generalize Un r.name s = u at *
      go_wp2_with fail
      refine (US.out _).mono ?_
      rintro e w1 ⟨rfl, rfl⟩
      clear US e0 e1 e2 e3 e4 e5
      cases u with
      | false =>
        have HF := Lib.hid (dec_false (alln_not hkl (fun h => by have := HP.out.1 h; cases this)))
        clear HP
        go_wp2
        go_ret
        exact ⟨congrArg (fun b => Ending.returned (Value.bool b)) HF.out.symm, W1.out⟩
      | true =>
        have HN := Lib.hid (alln_next HE.out (HP.out.2 rfl))
        clear HP
        go_wp2
        go_roundw
        case rel => exact ⟨k + 1, by omega, by go_num, HN.out, W1.out⟩
        case measure => simp [intOf]; omega
    · obtain rfl : n = k := by omega
      have HF : Hid (dec (Alln l.length (Pu s l)) = true) := dec_true (by rw [HS.out.1]; exact HE.out)
      go_wp2
      go_ret
      exact ⟨congrArg (fun b => Ending.returned (Value.bool b)) HF.out.symm, HL.out⟩

end Go.Proofs.YtkpcanigdppegaaDoor.AllU

/- Plain facts on memory: questions, and what a slice of questions reads as; a new slice of questions that a call gives back; a law on append of one question. -/
namespace Go.Proofs.YtkpcanigdppegaaDoor.MemQ
open Go.RowKit Go.Proofs.YtkpcanigdppegaaDoor.Mem Go.Proofs.YtkpcanigdppegaaDoor.SetMath

/-- The cells that hold a question. -/
def qc (q : Key) : List Value := [.string q.name, .int .i64 q.ty]

/-- A question as a value. -/
def qv (q : Key) : Value := .agg #[.string q.name, .int .i64 q.ty]

/-- The cells that hold a list of questions. -/
def fq (l : List Key) : List Value := l.flatMap qc

theorem fq_cons (r : Key) (l : List Key) : fq (r :: l) = qc r ++ fq l := rfl

theorem fq_append (l m : List Key) : fq (l ++ m) = fq l ++ fq m := List.flatMap_append

theorem fq_len : ∀ l : List Key, (fq l).length = l.length * 2
  | [] => rfl
  | r :: l => by rw [fq_cons, List.length_append, fq_len l, List.length_cons, show (qc r).length = 2 from rfl]; omega

theorem fq_get : ∀ (l : List Key) (j c : Nat) (h : j < l.length), c < 2 → (fq l)[j * 2 + c]? = (qc l[j])[c]?
  | r :: l, 0, c, _, hc => by
    rw [fq_cons, Nat.zero_mul, Nat.zero_add, List.getElem?_append_left (by show c < 2; exact hc)]
    rfl
  | r :: l, j + 1, c, h, hc => by
    have e : (qc r).length = 2 := rfl
    rw [fq_cons, List.getElem?_append_right (by rw [e]; omega), e, show (j + 1) * 2 + c - 2 = j * 2 + c by omega, fq_get l j c (by simpa using h) hc]
    rfl

/-- Both cells set: the question there is another one. -/
theorem fq_put : ∀ (l : List Key) (k : Nat) (r : Key), k < l.length → ((fq l).set (k * 2) (.string r.name)).set (k * 2 + 1) (.int .i64 r.ty) = fq (l.set k r)
  | x :: l, 0, r, _ => rfl
  | x :: l, k + 1, r, h => by
    have e2 : (qc x).length = 2 := rfl
    have e : ∀ (Y : List Value) (c : Nat) (v : Value), (qc x ++ Y).set ((k + 1) * 2 + c) v = qc x ++ Y.set (k * 2 + c) v := fun Y c v => by
      rw [List.set_append_right _ _ (by rw [e2]; omega), e2, show (k + 1) * 2 + c - 2 = k * 2 + c by omega]
    have e0 : ∀ (Y : List Value) (v : Value), (qc x ++ Y).set ((k + 1) * 2) v = qc x ++ Y.set (k * 2) v := fun Y v => e Y 0 v
    rw [fq_cons, e0, e, fq_put l k r (by simpa using h)]
    rfl

/-- From offset o on, block b holds the question q. -/
def Cq (w : World) (b o : Nat) (q : Key) : Prop := w.cell? ⟨b, o, none⟩ = some (.string q.name) ∧ w.cell? ⟨b, o + 1, none⟩ = some (.int .i64 q.ty)

/-- The slice with address A and n elements reads, in w, as the questions l. -/
def Sq (w : World) (A : Option Addr) (n : Nat) (l : List Key) : Prop :=
  l.length = n ∧ (0 < n → ∃ b off, A = some ⟨b, off, none⟩ ∧ b < w.heap.size ∧ ∀ j (h : j < l.length), Cq w b (off + j * 2) l[j])
section
variable {w w' : World} {n g b o : Nat} {A : Option Addr} {l : List Key} {t : TypeId} {q : Key}

theorem Cq.below {B : Nat} (h : Cq w b o q) (hb : Below B w w') (hl : b < B) : Cq w' b o q := ⟨(hb.cell (p := ⟨b, o, none⟩) hl).trans h.1, (hb.cell (p := ⟨b, o + 1, none⟩) hl).trans h.2⟩

theorem Sq.nil : Sq w A 0 [] := ⟨rfl, fun h => absurd h (Nat.lt_irrefl _)⟩

theorem Sq.on (h : Sq w A n l) (hb : Below w.heap.size w w') : Sq w' A n l := by
  refine ⟨h.1, fun hn => ?_⟩
  obtain ⟨b, off, hA, hl, hc⟩ := h.2 hn
  exact ⟨b, off, hA, Nat.lt_of_lt_of_le hl hb.size, fun j hj => (hc j hj).below hb hl⟩

theorem bk_cq {v : List Value} (h : Bk w g t (fq l ++ v)) (j : Nat) (hj : j < l.length) : Cq w g (j * 2) l[j] := by
  have hc : ∀ c, c < 2 → w.cell? ⟨g, j * 2 + c, none⟩ = (qc l[j])[c]? := fun c hc => by
    rw [h.cell, List.getElem?_append_left (by rw [fq_len]; omega), fq_get l j c hj hc]
  exact ⟨hc 0 (by omega), hc 1 (by omega)⟩

/-- A block of questions with room behind, read as a slice over its head. -/
theorem bk_sq {v : List Value} (h : Bk w g t (fq l ++ v)) (hn : l.length = n) : Sq w (some ⟨g, 0, none⟩) n l :=
  ⟨hn, fun _ => ⟨g, 0, rfl, h.lt, fun j hj => by rw [Nat.zero_add]; exact bk_cq h j hj⟩⟩

/-- What the call owns as a row of questions is such a block. -/
theorem bk_of_owns2 {base cap : Nat} {xs : List Value} (h : w.ownsRow base t 2 (.slice (some ⟨g, 0, none⟩) n cap) n xs) : ∃ r, Bk w g t (xs ++ r) ∧ (xs ++ r).length = cap * 2 ∧ n ≤ cap ∧ base ≤ g := by
  rcases h.2 with ⟨h1, _⟩ | ⟨g', cap', cur, hv, hb, hh, hle, _, hs, ht⟩
  · cases h1
  · simp only [Value.slice.injEq, Option.some.injEq, Addr.mk.injEq, true_and, and_true] at hv
    obtain ⟨rfl, rfl⟩ := hv
    refine ⟨cur.toList.drop (n * 2), ?_, ?_, hle, hb⟩
    · unfold Bk; rw [hh, ← ht]; simp
    · rw [← ht]; simp; omega
end

theorem info : (Tryd.prog.info? 28).map (fun i => (i.zero, i.size, i.bytes)) = some (some (.agg #[.string ⟨#[]⟩, .int .i64 0]), 2, 24) := by kernel_rfl

/-- The call returned a new slice that reads as the questions l (room behind it let in), and turned nothing that was there. -/
def GivesQ (w : World) (l : List Key) (e : Ending) (w' : World) : Prop :=
  ∃ g m c r, e = .returned (.slice (some ⟨g, 0, none⟩) m c) ∧ l.length = m ∧ m ≤ c ∧ w.heap.size ≤ g ∧ Bk w' g 28 (fq l ++ r) ∧ Below w.heap.size w w'

theorem owns_new (w : World) : (w.alloc (.cells #[] 28)).ownsRow w.heap.size 28 2 (.slice (some ⟨w.heap.size, 0, none⟩) 0 0) 0 [] :=
  World.ownsRow_made w #[] 0 (Nat.le_refl _) (Nat.zero_le _) (by simp)

theorem one_fq (y : Key) : ∀ u ∈ [Value.string y.name, Value.int .i64 y.ty], u.oneCell' = true := by
  intro u hu
  simp only [List.mem_cons, List.not_mem_nil, or_false] at hu
  rcases hu with rfl | rfl <;> rfl

/-- What the call owns as a row of questions is a slice that GivesQ speaks of. -/
theorem gives_of_owns {w w' : World} {g n cap : Nat} {l : List Key} (h : w'.ownsRow w.heap.size 28 2 (.slice (some ⟨g, 0, none⟩) n cap) n (fq l)) (hb : Below w.heap.size w w') : GivesQ w l (.returned (.slice (some ⟨g, 0, none⟩) n cap)) w' := by
  have hl : l.length = n := by have := h.1; rw [fq_len] at this; omega
  obtain ⟨r, hk, hr, hcap, hg⟩ := bk_of_owns2 h
  exact ⟨g, n, cap, r, rfl, hl, hcap, hg, hk, hb⟩
end Go.Proofs.YtkpcanigdppegaaDoor.MemQ

/- The keys of the program's maps: texts, ints, questions, records: of which the laws on maps may be asked. -/
namespace Go.Proofs.YtkpcanigdppegaaDoor.KeyT
open Go.MapKept Go.RowKit Go.Proofs.YtkpcanigdppegaaDoor.Mem Go.Proofs.YtkpcanigdppegaaDoor.MemR Go.Proofs.YtkpcanigdppegaaDoor.SetMath Go.Proofs.YtkpcanigdppegaaDoor.MemQ Go.Proofs.YtkpcanigdppegaaDoor.MapK

/-- A text as a key. -/
def KS (v : Value) : Prop := ∃ s : ByteArray, v = .string s

/-- An int as a key. -/
def KI (v : Value) : Prop := ∃ x : Int, v = .int .i64 x

/-- A question as a key. -/
def KQ (v : Value) : Prop := ∃ q : Key, v = qv q

/-- A record as a key. -/
def KR (v : Value) : Prop := ∃ r : Rec, v = .agg #[.string r.name, .int .i64 r.ty, .int .i64 r.ttl, .int .i64 r.n, .string r.host, .string r.text]

/-- Keys that are compared at once. -/
theorem plain {P : Program} {k : TypeId} {S : Value → Prop} (d : TypeDesc) (hd : P.underlying k = some d) (h : ∀ v, S v → IsKey d v) : MapK.KeyT P k S where
  check w em v hv := run_checkKey hd (h v hv) em 9999
  stays w v hv := run_keyThatStays (h v hv)
  find w x hx es hes := by
    rcases findNow_spec (h x hx) es 0 (fun e he => h _ (hes e he)) with ⟨h1, h2⟩ | ⟨j, e, h1, h2, h3⟩
    · exact Or.inl ⟨run_findKey hd h1, h2⟩
    · exact Or.inr ⟨j, e, by rw [run_findKey hd h1, Nat.zero_add], h2, h3⟩

theorem strings : MapK.KeyT Tryd.prog 9 KS := plain .string Tryd.underlying9 (by rintro v ⟨s, rfl⟩; trivial)

theorem ints : MapK.KeyT Tryd.prog 3 KI := plain (.int .i64) Tryd.underlying3 (by rintro v ⟨s, rfl⟩; exact rfl)

theorem bytes_ne {a b : ByteArray} (h : a ≠ b) : (a.toList == b.toList) = false := by
  cases e : (a.toList == b.toList) with
  | false => rfl
  | true =>
    have := eq_of_beq e
    rw [ByteArray.toList_eq, ByteArray.toList_eq] at this
    exact absurd (by cases a; cases b; congr; exact Array.toList_inj.1 this) h

theorem quest_same (q : Key) (w : World) : Sem.run Tryd.prog (Op.equal 28 (qv q) (qv q)) w = .ok true w := by
  have u3 := Tryd.underlying3
  have a3 := Tryd.isAgg3
  have z3 := Tryd.sizeOf3
  have u9 := Tryd.underlying9
  have a9 := Tryd.isAgg9
  have z9 := Tryd.sizeOf9
  have hS : Tryd.prog.underlying 28 = some (.struct (Tryd.prog.fieldsOf 28)) := by kernel_rfl
  have hp : Tryd.prog.stoodInHeld 28 = false := by kernel_rfl
  unfold qv Op.equal Op.maxDepth
  rw [show (10000 : Nat) = 9999 + 1 from rfl, run_equalIn_agg w 9999 28 _ _ hS hp]
  simp only [Program.fieldsOf, Tryd.underlying28]
  go_simp

theorem quest_diff {q p : Key} (h : q ≠ p) (w : World) : Sem.run Tryd.prog (Op.equal 28 (qv q) (qv p)) w = .ok false w := by
  have u3 := Tryd.underlying3
  have a3 := Tryd.isAgg3
  have z3 := Tryd.sizeOf3
  have u9 := Tryd.underlying9
  have a9 := Tryd.isAgg9
  have z9 := Tryd.sizeOf9
  have hS : Tryd.prog.underlying 28 = some (.struct (Tryd.prog.fieldsOf 28)) := by kernel_rfl
  have hp : Tryd.prog.stoodInHeld 28 = false := by kernel_rfl
  unfold qv Op.equal Op.maxDepth
  rw [show (10000 : Nat) = 9999 + 1 from rfl, run_equalIn_agg w 9999 28 _ _ hS hp]
  simp only [Program.fieldsOf, Tryd.underlying28]
  obtain ⟨n1, t1⟩ := q
  obtain ⟨n2, t2⟩ := p
  simp only
  by_cases c0 : n1 = n2
  · subst c0
    by_cases c1 : t1 = t2
    · subst c1; exact absurd rfl h
    · go_simp
  · have k := bytes_ne c0
    go_simp

theorem rec_same (r : Rec) (w : World) : Sem.run Tryd.prog (Op.equal 39 (.agg #[.string r.name, .int .i64 r.ty, .int .i64 r.ttl, .int .i64 r.n, .string r.host, .string r.text]) (.agg #[.string r.name, .int .i64 r.ty, .int .i64 r.ttl, .int .i64 r.n, .string r.host, .string r.text])) w = .ok true w := by
  have h := EqlR.eql_same r w
  rw [run_eql_struct] at h
  unfold Op.equal Op.maxDepth
  revert h
  cases Sem.run Tryd.prog (Op.equalIn 10000 39 (.agg #[.string r.name, .int .i64 r.ty, .int .i64 r.ttl, .int .i64 r.n, .string r.host, .string r.text]) (.agg #[.string r.name, .int .i64 r.ty, .int .i64 r.ttl, .int .i64 r.n, .string r.host, .string r.text])) w with
  | ok b w' => intro h; simp [Result.andThen] at h; rw [h.1, h.2]
  | halt h w' => intro h; simp [Result.andThen] at h

theorem rec_diff {r s : Rec} (h : r ≠ s) (w : World) : Sem.run Tryd.prog (Op.equal 39 (.agg #[.string r.name, .int .i64 r.ty, .int .i64 r.ttl, .int .i64 r.n, .string r.host, .string r.text]) (.agg #[.string s.name, .int .i64 s.ty, .int .i64 s.ttl, .int .i64 s.n, .string s.host, .string s.text])) w = .ok false w := by
  have h := EqlR.eql_diff h w
  rw [run_eql_struct] at h
  unfold Op.equal Op.maxDepth
  revert h
  cases Sem.run Tryd.prog (Op.equalIn 10000 39 (.agg #[.string r.name, .int .i64 r.ty, .int .i64 r.ttl, .int .i64 r.n, .string r.host, .string r.text]) (.agg #[.string s.name, .int .i64 s.ty, .int .i64 s.ttl, .int .i64 s.n, .string s.host, .string s.text])) w with
  | ok b w' => intro h; simp [Result.andThen] at h; rw [h.1, h.2]
  | halt h w' => intro h; simp [Result.andThen] at h

theorem bits_self (s : ByteArray) (n : Nat) : Instr.sameBits n (.string s) (.string s) = true := sameBits_self (d := .string) (k := .string s) trivial n

theorem bits_int (x : Int) (n : Nat) : Instr.sameBits n (.int .i64 x) (.int .i64 x) = true := sameBits_self (d := .int .i64) (k := .int .i64 x) rfl n

theorem bits_agg (xs : List Value) (n : Nat) (h : ∀ x ∈ xs, Instr.sameBits n x x = true) : Instr.sameBits (n + 1) (.agg xs.toArray) (.agg xs.toArray) = true := by
  rw [Instr.sameBits]
  simp only [beq_self_eq_true, Bool.true_and]
  rw [List.all_eq_true]
  rintro ⟨x, y⟩ hxy
  have e : x = y ∧ x ∈ xs := by
    clear h
    induction xs with
    | nil => cases hxy
    | cons a xs ih =>
      rw [List.zip_cons_cons] at hxy
      rcases List.mem_cons.1 hxy with h1 | h1
      · cases h1; exact ⟨rfl, by simp⟩
      · obtain ⟨h2, h3⟩ := ih h1; exact ⟨h2, by simp [h3]⟩
  obtain ⟨rfl, hm⟩ := e
  exact h x hm

theorem stays_agg {P : Program} (xs : List Value) (w : World) (h : ∀ x ∈ xs, Instr.sameBits 9999 x x = true) : (Instr.keyThatStays (.agg xs.toArray) (.agg xs.toArray)).run P w = .ok (.agg xs.toArray) w := by
  have := bits_agg xs 9999 h
  simp only [Instr.keyThatStays, this, if_true]
  rfl

theorem check_string (w : World) (em : Bool) (s : ByteArray) (n : Nat) : (Instr.checkKey em (n + 1) 9 (.string s)).run Tryd.prog w = .ok () w := run_checkKey Tryd.underlying9 (k := .string s) trivial em n

theorem check_int (w : World) (em : Bool) (x : Int) (n : Nat) : (Instr.checkKey em (n + 1) 3 (.int .i64 x)).run Tryd.prog w = .ok () w := run_checkKey Tryd.underlying3 (k := .int .i64 x) rfl em n

set_option maxRecDepth 100000 in
theorem quest_check (w : World) (em : Bool) (q : Key) : (Instr.checkKey em 10000 28 (qv q)).run Tryd.prog w = .ok () w := by
  have k0 : (Instr.checkKey em 9999 9 (.string q.name)).run Tryd.prog w = .ok () w := check_string w em q.name 9998
  have k1 : (Instr.checkKey em 9999 3 (.int .i64 q.ty)).run Tryd.prog w = .ok () w := check_int w em q.ty 9998
  have u3 := Tryd.underlying3
  have a3 := Tryd.isAgg3
  have z3 := Tryd.sizeOf3
  have u9 := Tryd.underlying9
  have a9 := Tryd.isAgg9
  have z9 := Tryd.sizeOf9
  rw [show (10000 : Nat) = 9999 + 1 from rfl, Instr.checkKey]
  unfold qv
  simp only [Sem.run_bind, run_underlying Tryd.underlying28, Result.andThen]
  rw [← Array.forIn_toList]
  generalize 9999 = N at *
  go_simp

set_option maxRecDepth 100000 in
theorem rec_check (w : World) (em : Bool) (r : Rec) : (Instr.checkKey em 10000 39 (.agg #[.string r.name, .int .i64 r.ty, .int .i64 r.ttl, .int .i64 r.n, .string r.host, .string r.text])).run Tryd.prog w = .ok () w := by
  have k0 : (Instr.checkKey em 9999 9 (.string r.name)).run Tryd.prog w = .ok () w := check_string w em r.name 9998
  have k1 : (Instr.checkKey em 9999 3 (.int .i64 r.ty)).run Tryd.prog w = .ok () w := check_int w em r.ty 9998
  have k2 : (Instr.checkKey em 9999 3 (.int .i64 r.ttl)).run Tryd.prog w = .ok () w := check_int w em r.ttl 9998
  have k3 : (Instr.checkKey em 9999 3 (.int .i64 r.n)).run Tryd.prog w = .ok () w := check_int w em r.n 9998
  have k4 : (Instr.checkKey em 9999 9 (.string r.host)).run Tryd.prog w = .ok () w := check_string w em r.host 9998
  have k5 : (Instr.checkKey em 9999 9 (.string r.text)).run Tryd.prog w = .ok () w := check_string w em r.text 9998
  have u3 := Tryd.underlying3
  have a3 := Tryd.isAgg3
  have z3 := Tryd.sizeOf3
  have u9 := Tryd.underlying9
  have a9 := Tryd.isAgg9
  have z9 := Tryd.sizeOf9
  rw [show (10000 : Nat) = 9999 + 1 from rfl, Instr.checkKey]
  simp only [Sem.run_bind, run_underlying Tryd.underlying39, Result.andThen]
  rw [← Array.forIn_toList]
  generalize 9999 = N at *
  go_simp

theorem qv_ne {q p : Key} (h : qv q ≠ qv p) : q ≠ p := fun e => h (by rw [e])

theorem qv_inj {q p : Key} (h : qv q = qv p) : q = p := by
  obtain ⟨a, b⟩ := q
  obtain ⟨c, d⟩ := p
  simp [qv] at h
  rw [h.1, h.2]

theorem rv_inj {r s : Rec} (h : (.agg #[.string r.name, .int .i64 r.ty, .int .i64 r.ttl, .int .i64 r.n, .string r.host, .string r.text] : Value) = .agg #[.string s.name, .int .i64 s.ty, .int .i64 s.ttl, .int .i64 s.n, .string s.host, .string s.text]) : r = s := by
  obtain ⟨a, b, c, d, e, f⟩ := r
  obtain ⟨a', b', c', d', e', f'⟩ := s
  simp at h
  obtain ⟨rfl, rfl, rfl, rfl, rfl, rfl⟩ := h
  rfl

theorem quests : MapK.KeyT Tryd.prog 28 KQ := by
  refine KeyT.struct _ Tryd.underlying28 (fun _ _ _ => rfl) ?_ ?_ ?_ ?_
  · rintro w em v ⟨q, rfl⟩; exact quest_check w em q
  · rintro w x ⟨q, rfl⟩; exact quest_same q w
  · rintro w x y ⟨q, rfl⟩ ⟨p, rfl⟩ h; exact quest_diff (qv_ne h) w
  · rintro w v ⟨q, rfl⟩
    refine stays_agg [.string q.name, .int .i64 q.ty] w ?_
    simp only [List.mem_cons, List.not_mem_nil, or_false]
    rintro x (rfl | rfl)
    · exact bits_self _ _
    · exact bits_int _ _

theorem recs : MapK.KeyT Tryd.prog 39 KR := by
  refine KeyT.struct _ Tryd.underlying39 (fun _ _ _ => rfl) ?_ ?_ ?_ ?_
  · rintro w em v ⟨r, rfl⟩; exact rec_check w em r
  · rintro w x ⟨r, rfl⟩; exact rec_same r w
  · rintro w x y ⟨r, rfl⟩ ⟨s, rfl⟩ h; exact rec_diff (fun e => h (by rw [e])) w
  · rintro w v ⟨r, rfl⟩
    refine stays_agg [.string r.name, .int .i64 r.ty, .int .i64 r.ttl, .int .i64 r.n, .string r.host, .string r.text] w ?_
    simp only [List.mem_cons, List.not_mem_nil, or_false]
    rintro x (rfl | rfl | rfl | rfl | rfl | rfl) <;> first | exact bits_self _ _ | exact bits_int _ _
end Go.Proofs.YtkpcanigdppegaaDoor.KeyT
