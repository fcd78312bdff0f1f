/- The law FnZonesBent returns true at every slice of bytes and turns nothing that was there: of drawn zones, valid or not, the functions of chapter 10 return what their models return, and a valid zone has 2 to 20 records. -/
import Derived.Test.YtkpcanigdppegaaDoorZonesBentP5
import Derived.Test.YtkpcanigdppegaaDoorZoneMath
import Derived.Test.YtkpcanigdppegaaDoorMemZ
import Derived.Test.YtkpcanigdppegaaDoorZonesBentP2
import Derived.Test.YtkpcanigdppegaaDoorZonesBentP1
import Derived.Test.YtkpcanigdppegaaDoorZonesBentP4
import Derived.Test.YtkpcanigdppegaaDoorMemS
import Derived.Deep.QuietTactic
import Derived.BigQuiet
import Derived.Test.YtkpcanigdppegaaDoorMem
import Derived.Deep.RegionHeld3
/- What InZone does in the program: it tells whether the name is under the zone's apex and under none of its cuts. Condition: fewer than 400000001 records, no name of more than 400000000 bytes. -/
namespace Go.Proofs.YtkpcanigdppegaaDoor.InZoneI
open Go.RowKit Go.Proofs.YtkpcanigdppegaaDoor.Mem Go.Proofs.YtkpcanigdppegaaDoor.MemR Go.Proofs.YtkpcanigdppegaaDoor.SetMath Go.Proofs.YtkpcanigdppegaaDoor.NameMath Go.Proofs.YtkpcanigdppegaaDoor.ZoneMath Go.Proofs.YtkpcanigdppegaaDoor.MemZ Go.Proofs.YtkpcanigdppegaaDoor.CutOfS

set_option maxHeartbeats 4000000 in
theorem impl (s nm : ByteArray) (b0 o0 n c : Nat) (l : List Rec) (w : World) (hs : Sr w w.heap.size (some ⟨b0, o0, none⟩) n l) (hn : n ≤ 400000000) (hm : s.size ≤ 400000000) (hq : nm.size ≤ 400000000) (hz : ∀ r ∈ l, r.name.size ≤ 400000000) :
    Calls Tryd.prog 11 #[.agg #[.string s, .slice (some ⟨b0, o0, none⟩) n c], .string nm] w fun e w' => e = .returned (.bool (iz s nm l)) ∧ Below w.heap.size w w' := by
  have L0 := Lib.hid ((Below.refl w.heap.size w).alloc (Nat.le_refl _) (.cells #[.string s, .slice (some ⟨b0, o0, none⟩) n c] 26))
  have X0 := Lib.hid (zx_new w 26 s (.slice (some ⟨b0, o0, none⟩) n c))
  have CS := Lib.hid (fun W hW => CutOfI.impl s nm b0 o0 n c l W hW hn hm hq hz)
  have US := Lib.hid (fun W => UnderImpl.impl nm s W hq hm)
  have S0 := Lib.hid (hs.on L0.out)
  clear hs hz
  have HV : Hid (iz s nm l = (Un nm s && !(co nm (uq (cn s l))).isSome)) := rfl
  generalize iz s nm l = v at *
  generalize co nm (uq (cn s l)) = o at *
  generalize Un nm s = u at *
  obtain ⟨x0, x1⟩ := X0.out
  cases o with
  | none =>
    replace CS : Hid (∀ W, Sr W W.heap.size (some ⟨b0, o0, none⟩) n l → Calls Tryd.prog 8 #[.agg #[.string s, .slice (some ⟨b0, o0, none⟩) n c], .string nm] W fun e w' => e = .returned (.tuple #[.string ⟨#[]⟩, .bool false]) ∧ Below W.heap.size W w') := CS
    go_enter Tryd.func11, Tryd.ntmps11
    go_wp2_with fail
    refine (CS.out _ S0.out).mono ?_
    rintro e w1 ⟨rfl, hl⟩
    have X1 := Lib.hid (X0.out.below hl)
    have L1 := Lib.hid (L0.out.trans (hl.mono L0.out.size))
    clear hl CS S0 L0 X0 x0 x1
    obtain ⟨x0, x1⟩ := X1.out
    go_wp2_with fail
    refine (US.out _).mono ?_
    rintro e w2 ⟨rfl, rfl⟩
    have L2 := Lib.hid L1.out
    clear US x0 x1 X1
    have HF : Hid (v = u) := by show _ = _; rw [HV.out]; simp
    clear HV
    cases u with
    | true => go_wp2; go_ret; exact ⟨congrArg (fun b => Ending.returned (Value.bool b)) HF.out.symm, L2.out⟩
    | false => go_wp2; go_ret; exact ⟨congrArg (fun b => Ending.returned (Value.bool b)) HF.out.symm, L2.out⟩
  | some y =>
    replace CS : Hid (∀ W, Sr W W.heap.size (some ⟨b0, o0, none⟩) n l → Calls Tryd.prog 8 #[.agg #[.string s, .slice (some ⟨b0, o0, none⟩) n c], .string nm] W fun e w' => e = .returned (.tuple #[.string y, .bool true]) ∧ Below W.heap.size W w') := CS
    go_enter Tryd.func11, Tryd.ntmps11
    go_wp2_with fail
    refine (CS.out _ S0.out).mono ?_
    rintro e w1 ⟨rfl, hl⟩
    have X1 := Lib.hid (X0.out.below hl)
    have L1 := Lib.hid (L0.out.trans (hl.mono L0.out.size))
    clear hl CS S0 L0 X0 x0 x1
    obtain ⟨x0, x1⟩ := X1.out
    go_wp2
    have HF : Hid (v = false) := by show _ = _; rw [HV.out]; simp
    go_ret
    exact ⟨congrArg (fun b => Ending.returned (Value.bool b)) HF.out.symm, L1.out⟩

end Go.Proofs.YtkpcanigdppegaaDoor.InZoneI

/- What Exists does in the program (a range over the zone's records): it tells whether a record's name is the name or under it. Condition: fewer than 400000001 records, no name of more than 400000000 bytes. -/
namespace Go.Proofs.YtkpcanigdppegaaDoor.ExistsI
open Go.RowKit Go.Proofs.YtkpcanigdppegaaDoor.Mem Go.Proofs.YtkpcanigdppegaaDoor.MemR Go.Proofs.YtkpcanigdppegaaDoor.SetMath Go.Proofs.YtkpcanigdppegaaDoor.NameMath Go.Proofs.YtkpcanigdppegaaDoor.ZoneMath Go.Proofs.YtkpcanigdppegaaDoor.MemZ

set_option maxHeartbeats 4000000 in
theorem impl (s nm : ByteArray) (b0 o0 n c : Nat) (l : List Rec) (w : World) (hs : Sr w w.heap.size (some ⟨b0, o0, none⟩) n l) (hn : n ≤ 400000000) (hm : nm.size ≤ 400000000) (hz : ∀ r ∈ l, r.name.size ≤ 400000000) :
    Calls Tryd.prog 13 #[.agg #[.string s, .slice (some ⟨b0, o0, none⟩) n c], .string nm] w fun e w' => e = .returned (.bool (ex nm l)) ∧ Below w.heap.size w w' := by
  have L0 := Lib.hid ((Below.refl w.heap.size w).alloc (Nat.le_refl _) (.cells #[.string s, .slice (some ⟨b0, o0, none⟩) n c] 26))
  have HS := Lib.hid hs
  have HZ := Lib.hid hz
  clear hs hz
  go_enter Tryd.func13, Tryd.ntmps13
  go_wp2
  generalize w.alloc (.cells #[.string s, .slice (some ⟨b0, o0, none⟩) n c] 26) = w0 at *
  go_loopw [10] (fun i wr => ∃ k : Nat, k ≤ n ∧ i = .int .i64 k ∧ Hid (ex nm (l.take k) = false) ∧ Hid (Below w.heap.size w wr)) (fun i _ => n - (intOf i).toNat)
  case atStart => exact ⟨0, Nat.zero_le _, rfl, rfl, L0.out⟩
  case round =>
    clear L0
    obtain ⟨k, hk, rfl, HE, HL⟩ := hrel
    by_cases hlt : k < n
    · obtain ⟨b, off, hA, hbB, hcs⟩ := HS.out.2 (by omega)
      obtain ⟨rfl, rfl⟩ : b0 = b ∧ o0 = off := by simp at hA; exact hA
      clear hA
      have hkl : k < l.length := by rw [HS.out.1]; exact hlt
      obtain ⟨e0, e1, e2, e3, e4, e5⟩ := (hcs k hkl).below HL.out hbB
      clear hcs
      have HT := Lib.hid (ex_take nm l k hkl)
      have HH := Lib.hid (ex_hit nm l k hkl)
      have HM := Lib.hid (HZ.out _ (List.getElem_mem hkl))
      generalize l[k] = r at *
      have W1 : Hid (Below w.heap.size w (wr.alloc (.cells #[.string r.name, .int .i64 r.ty, .int .i64 r.ttl, .int .i64 r.n, .string r.host, .string r.text] 39))) := HL.out.alloc HL.out.size _
      have US := Lib.hid (fun W => UnderImpl.impl r.name nm W HM.out hm)
      generalize Un r.name nm = u at *
      go_wp2_with fail
      refine (US.out _).mono ?_
      rintro e w1 ⟨rfl, rfl⟩
      clear US e0 e1 e2 e3 e4 e5
      cases u with
      | true =>
        have HF := Lib.hid (HH.out rfl)
        clear HH HT
        go_wp2
        go_ret
        exact ⟨congrArg (fun b => Ending.returned (Value.bool b)) HF.out.symm, W1.out⟩
      | false =>
        have HN := Lib.hid (HT.out.trans (by rw [HE.out, Bool.or_false]))
        clear HH HT
        go_wp2
        go_roundw
        case rel => exact ⟨k + 1, by omega, by go_num, HN.out, W1.out⟩
        case measure => simp [intOf]; omega
    · obtain rfl : n = k := by omega
      have HF : Hid (ex nm l = false) := by rw [take_all HS.out.1] at HE; exact HE
      go_wp2
      go_ret
      exact ⟨congrArg (fun b => Ending.returned (Value.bool b)) HF.out.symm, HL.out⟩

end Go.Proofs.YtkpcanigdppegaaDoor.ExistsI

/- What Exists does in the model: it tells whether a record's name is the name or under it. Condition: fewer than 400000001 records, no name of more than 400000000 bytes. -/
namespace Go.Proofs.YtkpcanigdppegaaDoor.ExistsS
open Go.RowKit Go.Proofs.YtkpcanigdppegaaDoor.Mem Go.Proofs.YtkpcanigdppegaaDoor.MemR Go.Proofs.YtkpcanigdppegaaDoor.SetMath Go.Proofs.YtkpcanigdppegaaDoor.NameMath Go.Proofs.YtkpcanigdppegaaDoor.ZoneMath Go.Proofs.YtkpcanigdppegaaDoor.MemZ

set_option maxHeartbeats 4000000 in
theorem spec (s nm : ByteArray) (b0 o0 n c : Nat) (l : List Rec) (w : World) (hs : Sr w w.heap.size (some ⟨b0, o0, none⟩) n l) (hn : n ≤ 400000000) (hm : nm.size ≤ 400000000) (hz : ∀ r ∈ l, r.name.size ≤ 400000000) :
    Calls Tryd.prog 23 #[.agg #[.string s, .slice (some ⟨b0, o0, none⟩) n c], .string nm] w fun e w' => e = .returned (.bool (ex nm l)) ∧ Below w.heap.size w w' := by
  have Z0 := Lib.hid (zx_new w 26 s (.slice (some ⟨b0, o0, none⟩) n c))
  have L0 := Lib.hid ((Below.refl w.heap.size w).alloc (Nat.le_refl _) (.cells #[.string s, .slice (some ⟨b0, o0, none⟩) n c] 26))
  have HS := Lib.hid hs
  have HZ := Lib.hid hz
  clear hs hz
  go_enter Tryd.func23, Tryd.ntmps23
  go_wp2
  generalize w.alloc (.cells #[.string s, .slice (some ⟨b0, o0, none⟩) n c] 26) = w0 at *
  go_loopw [5] (fun i wr => ∃ k : Nat, k ≤ n ∧ i = .int .i64 k ∧ Hid (ex nm (l.take k) = false) ∧ Hid (Zx wr w.heap.size s (.slice (some ⟨b0, o0, none⟩) n c)) ∧ Hid (Below w.heap.size w wr)) (fun i _ => n - (intOf i).toNat)
  case atStart => exact ⟨0, Nat.zero_le _, rfl, rfl, Z0.out, L0.out⟩
  case round =>
    clear Z0 L0
    obtain ⟨k, hk, rfl, HE, HX, HL⟩ := hrel
    obtain ⟨z0, z1⟩ := HX.out
    by_cases hlt : k < n
    · obtain ⟨b, off, hA, hbB, hcs⟩ := HS.out.2 (by omega)
      obtain ⟨rfl, rfl⟩ : b0 = b ∧ o0 = off := by simp at hA; exact hA
      clear hA
      have hkl : k < l.length := by rw [HS.out.1]; exact hlt
      obtain ⟨e0, e1, e2, e3, e4, e5⟩ := (hcs k hkl).below HL.out hbB
      clear hcs
      have HT := Lib.hid (ex_take nm l k hkl)
      have HH := Lib.hid (ex_hit nm l k hkl)
      have HM := Lib.hid (HZ.out _ (List.getElem_mem hkl))
      generalize l[k] = r at *
      have US := Lib.hid (fun W => Under.spec r.name nm W HM.out hm)
      generalize Un r.name nm = u at *
      go_wp2_with fail
      refine (US.out _).mono ?_
      rintro e w1 ⟨rfl, hl⟩
      have L1 := Lib.hid (HL.out.trans (hl.mono HL.out.size))
      have X1 := Lib.hid (HX.out.below hl)
      clear hl US z0 z1 e0 e1 e2 e3 e4 e5
      cases u with
      | true =>
        have HF := Lib.hid (HH.out rfl)
        clear HH HT
        go_wp2
        go_ret
        exact ⟨congrArg (fun b => Ending.returned (Value.bool b)) HF.out.symm, L1.out⟩
      | false =>
        have HN := Lib.hid (HT.out.trans (by rw [HE.out, Bool.or_false]))
        clear HH HT
        go_wp2
        go_roundw
        case rel => exact ⟨k + 1, by omega, by go_num, HN.out, X1.out, L1.out⟩
        case measure => simp [intOf]; omega
    · obtain rfl : n = k := by omega
      have HF : Hid (ex nm l = false) := by rw [take_all HS.out.1] at HE; exact HE
      go_wp2
      go_ret
      exact ⟨congrArg (fun b => Ending.returned (Value.bool b)) HF.out.symm, HL.out⟩
end Go.Proofs.YtkpcanigdppegaaDoor.ExistsS

/- What Glue does in the program: the addresses of the hosts, in their order, out of a map of groups. Condition: at most 1048576 records and as many hosts (so the result may have many more). -/
namespace Go.Proofs.YtkpcanigdppegaaDoor.GlueI
open Go.RowKit Go.Proofs.YtkpcanigdppegaaDoor.Mem Go.Proofs.YtkpcanigdppegaaDoor.MemR Go.Proofs.YtkpcanigdppegaaDoor.SetMath Go.Proofs.YtkpcanigdppegaaDoor.ZoneMath Go.Proofs.YtkpcanigdppegaaDoor.MemZ Go.Proofs.YtkpcanigdppegaaDoor.MemS Go.Proofs.YtkpcanigdppegaaDoor.MemQ Go.Proofs.YtkpcanigdppegaaDoor.MapK Go.Proofs.YtkpcanigdppegaaDoor.MapE Go.Proofs.YtkpcanigdppegaaDoor.GrpM Go.Proofs.YtkpcanigdppegaaDoor.AppR Go.Proofs.YtkpcanigdppegaaDoor.Wt Go.Proofs.YtkpcanigdppegaaDoor.SetI

/-- append of a slice of records onto a row of the call's own, up to many records. -/
theorem append_wide {w : World} {ops : Array Oper} {rest : List Oper} {o : Oper} {a : Act} {Q : Exit → Act → World → Prop} (hgd : o.guard = none) (s x : Operand)
    (ho : o.op = .call { callee := .builtin .append, args := #[s, x], argTypes := #[24, 24] })
    (base g n cap : Nat) (L : List Rec) (hs : a.eval s = .slice (some ⟨g, 0, none⟩) n cap) (hown : w.ownsRow base 39 6 (.slice (some ⟨g, 0, none⟩) n cap) n (fl L))
    (b off m c B : Nat) (l : List Rec) (hx : a.eval x = .slice (some ⟨b, off, none⟩) m c) (hl : Sr w B (some ⟨b, off, none⟩) m l)
    (hnm : n + m ≤ 1900000000000) (hbase : base ≤ w.heap.size)
    (h : ∀ g' cap' w', w'.ownsRow base 39 6 (.slice (some ⟨g', 0, none⟩) (n + m) cap') (n + m) (fl (L ++ l)) → w.grownBy w' (some g) → wpList Tryd.prog ops Q rest (a.put o.dst (.slice (some ⟨g', 0, none⟩) (n + m) cap')) w') : wpList Tryd.prog ops Q (o :: rest) a w := by
  obtain ⟨i0, hi, hz0, hz1, hz2⟩ := info_parts CopyR.info
  exact wpList_append_own w hgd s x 24 ho base 39 i0 _ 6 72 Tryd.underlying24 hi hz0 hz1 hz2 rfl (by decide) _ n (fl L) hs hown ⟨b, off, none⟩ m c (fl l) hx (by rw [fl_len, hl.1]) (cells_of hl) (one_fl l) (by unfold maxLen; omega) (by omega) hbase
    (fun v' w' h1 h2 h3 => by
      rcases h1.2 with ⟨hv, _⟩ | ⟨g', cap', cur, hv, _⟩
      · have := (h3.1 hv).1
        cases this
      · subst hv
        exact h g' cap' w' (by rw [fl_append]; exact h1) h2)

set_option maxRecDepth 100000 in
set_option maxHeartbeats 8000000 in
theorem impl (s : ByteArray) (b0 o0 n c : Nat) (l : List Rec) (b1 o1 nh ch : Nat) (H : List ByteArray) (w : World) (hs : Sr w w.heap.size (some ⟨b0, o0, none⟩) n l) (hh : Ss w w.heap.size (some ⟨b1, o1, none⟩) nh H) (hn : n ≤ 1048576) (hnh : nh ≤ 1048576) :
    Calls Tryd.prog 25 #[.agg #[.string s, .slice (some ⟨b0, o0, none⟩) n c], .slice (some ⟨b1, o1, none⟩) nh ch] w (GivesL w (gl H l)) := by
  have L0 := Lib.hid ((Below.refl w.heap.size w).alloc (Nat.le_refl _) (.cells #[.string s, .slice (some ⟨b0, o0, none⟩) n c] 26))
  have X0 := Lib.hid (zx_new w 26 s (.slice (some ⟨b0, o0, none⟩) n c))
  have SE := Lib.hid (fun W hW => SetI.sets b0 o0 n c l W hW (by omega))
  have S0 := Lib.hid (hs.on L0.out)
  have HH := Lib.hid hh
  have HN := Lib.hid hs.1
  clear hs hh
  obtain ⟨x0, x1⟩ := X0.out
  go_enter Tryd.func25, Tryd.ntmps25
  obtain ⟨i0, hi, hz0, hz1, hz2⟩ := info_parts CopyR.info
  go_wp2_with fail
  refine (SE.out _ S0.out).mono ?_
  rintro e w1 ⟨bm, rfl, hbm, ⟨es, hm, hq, ho, hd⟩, hl⟩
  have L1 := Lib.hid (L0.out.trans (hl.mono L0.out.size))
  have M1 := Lib.hid hm
  have HQ := Lib.hid hq
  have HS' := Lib.hid (ev_key es)
  have HND := Lib.hid (ev_nodup (es := es) (by rw [hq]; exact nodup_uq _))
  have R1 : Hid (∀ (j : Nat) (e : Ge), es[j]? = some e → (sq e.q l).length = e.m ∧ Sr w1 w1.heap.size (some ⟨e.g, 0, none⟩) e.m (sq e.q l)) := fun j e hj => by
    have hz := own_m (ho j e hj)
    obtain ⟨r', hb, _⟩ := bk_of_owns6 (ho j e hj)
    exact ⟨hz, bk_sr hb hz⟩
  have KT := KeyT.quests
  have P2 := Lib.hid (AppR.owns_new w1)
  have L2 := Lib.hid ((Below.refl w1.heap.size w1).alloc (Nat.le_refl _) (.cells #[] 39))
  clear hm hq ho hd hl SE hbm L0 X0 S0 x0 x1
  go_wp2
  generalize w1.alloc (.cells #[] 39) = w2 at *
  go_loopw [6, 15] (fun out i wr => ∃ k g m cap : Nat, k ≤ nh ∧ m ≤ k * n ∧ i = .int .i64 k ∧ out = .slice (some ⟨g, 0, none⟩) m cap ∧ Hid (wr.ownsRow w1.heap.size 39 6 (.slice (some ⟨g, 0, none⟩) m cap) m (fl (gl (H.take k) l))) ∧ Hid (Below w1.heap.size w1 wr)) (fun _ i _ => nh - (intOf i).toNat)
  case atStart => exact ⟨0, w1.heap.size, 0, 0, Nat.zero_le _, Nat.zero_le _, rfl, rfl, P2.out, L2.out⟩
  case round =>
    clear P2 L2
    obtain ⟨k, g, m, cap, hk, hm, rfl, rfl, HO, HL⟩ := hrel
    by_cases hlt : k < nh
    · obtain ⟨b, off, hA, hbB, hcs⟩ := HH.out.2 (by omega)
      obtain ⟨rfl, rfl⟩ : b1 = b ∧ o1 = off := by simp at hA; exact hA
      clear hA
      have hkl : k < H.length := by rw [HH.out.1]; exact hlt
      have e0 : wr.cell? ⟨b1, o1 + k, none⟩ = some (.string H[k]) := ((L1.out.trans (HL.out.mono L1.out.size)).cell (p := ⟨b1, o1 + k, none⟩) hbB).trans (hcs k hkl)
      clear hcs
      have HT := Lib.hid (gl_take H l k hkl)
      generalize H[k] = y at *
      have hmm : Hid (m ≤ 1100000000000) := show _ ≤ _ from Nat.le_trans hm (Nat.le_trans (Nat.mul_le_mul (show k ≤ 1048576 by omega) hn) (by decide))
      have lg : Hid (w1.heap.size ≤ g ∧ g < wr.heap.size) := HO.out.lt g rfl
      have M2 := Lib.hid (M1.out.below HL.out M1.out.lt)
      have HX : Hid (KeyT.KQ (qv ⟨y, 1⟩)) := ⟨⟨y, 1⟩, rfl⟩
      by_cases hin : (⟨y, 1⟩ : Key) ∈ uq (kl l)
      · obtain ⟨j, e, hj, hk'⟩ : ∃ (j : Nat) (e : Ge), es[j]? = some e ∧ e.q = ⟨y, 1⟩ := by
          rw [← HQ.out] at hin
          obtain ⟨e, he, hq⟩ := List.mem_map.1 hin
          obtain ⟨j, hj⟩ := List.getElem?_of_mem he
          exact ⟨j, e, hj, hq⟩
        have HE : Hid (sq e.q l = sf y 1 l) := show _ = _ by rw [hk']; rfl
        have hem : e.m ≤ n := by
          have h1 := (R1.out j e hj).1
          have h2 := sf_len e.q.name e.q.ty l
          have h3 : (sq e.q l).length ≤ l.length := h2
          have := HN.out
          omega
        have LK : Hid ((Instr.lookup 68 (.map (some bm)) (.agg #[.string y, .int .i64 1]) false).run Tryd.prog wr = .ok (.slice (some ⟨e.g, 0, none⟩) e.m e.cap) wr) := M2.out.in KT Tryd.underlying68 HS'.out HND.out HX.out (show (qv ⟨y, 1⟩, sv e) ∈ ev es from by rw [← hk']; exact List.mem_of_getElem? (ev_at hj)) false
        have SR : Hid (Sr wr w1.heap.size (some ⟨e.g, 0, none⟩) e.m (sf y 1 l)) := by
          have := (R1.out j e hj).2
          rw [HE.out] at this
          exact this.below HL.out
        clear hin hj hk' HX M2
        go_wp2_with (first | (at_lookup; refine wp_look rfl _ _ false rfl (.agg #[.string y, .int .i64 1]) (.slice (some ⟨e.g, 0, none⟩) e.m e.cap) rfl rfl LK.out ?_) | (at_builtin; refine append_wide rfl (.tmp 19) (.tmp 23) rfl w1.heap.size g m cap (gl (H.take k) l) rfl HO.out e.g 0 e.m e.cap _ (sf y 1 l) rfl SR.out (by have := hmm.out; omega) HL.out.size ?_))
        intro g' cap' w3 hown hgrow
        have O3 := Lib.hid hown
        have L3 := Lib.hid (HL.out.grown hgrow HL.out.size (fun j hj => by cases hj; exact lg.out.1))
        clear hown hgrow
        go_wp2
        go_roundw
        case rel => exact ⟨k + 1, g', m + e.m, cap', by omega, by rw [Nat.add_mul, Nat.one_mul]; omega, by go_num, rfl, by rw [HT.out]; exact O3.out, L3.out⟩
        case measure => simp [intOf]; omega
      · have HE : Hid (sf y 1 l = []) := sq_none (q := ⟨y, 1⟩) (fun h => hin (mem_uq.2 h))
        have LK : Hid ((Instr.lookup 68 (.map (some bm)) (.agg #[.string y, .int .i64 1]) false).run Tryd.prog wr = .ok (.slice none 0 0) wr) := M2.out.out KT Tryd.underlying68 (zero _) HS'.out HX.out (ev_out (by rw [HQ.out]; exact hin)) false
        clear hin HX M2
        go_wp2_with (at_lookup; refine wp_look rfl _ _ false rfl (.agg #[.string y, .int .i64 1]) (.slice none 0 0) rfl rfl LK.out ?_; refine wpList_append_own_none rfl (.tmp 19) (.tmp 23) 24 rfl w1.heap.size 39 i0 6 Tryd.underlying24 hi _ m (fl (gl (H.take k) l)) rfl HO.out rfl ?_)
        go_wp2
        go_roundw
        case rel => exact ⟨k + 1, g, m, cap, by omega, by rw [Nat.add_mul, Nat.one_mul]; omega, by go_num, rfl, by rw [HT.out, HE.out, List.append_nil]; exact HO.out, HL.out⟩
        case measure => simp [intOf]; omega
    · obtain rfl : nh = k := by omega
      have HN := Lib.hid (take_all HH.out.1)
      go_wp2
      go_ret
      have ho := HO.out
      rw [HN.out] at ho
      obtain ⟨r', hb, _, hcap, hg⟩ := bk_of_owns6 ho
      have hz : (gl H l).length = m := by have := ho.1; rw [fl_len] at this; omega
      exact ⟨g, m, cap, r', rfl, hz, hcap, Nat.le_trans L1.out.size hg, hb, L1.out.trans (HL.out.mono L1.out.size)⟩

end Go.Proofs.YtkpcanigdppegaaDoor.GlueI

/- What sameStrs does on two slices that read the same: it returns true and turns nothing. Condition: fewer than 400000001 texts. -/
namespace Go.Proofs.YtkpcanigdppegaaDoor.SameS
open Go.RowKit Go.Proofs.YtkpcanigdppegaaDoor.Mem Go.Proofs.YtkpcanigdppegaaDoor.MemS

set_option maxHeartbeats 1000000 in
theorem sameStrs_same (A A' : Option Addr) (n c c' : Nat) (l : List ByteArray) (w : World) (B : Nat) (hs : Ss w B A n l) (hs' : Ss w B A' n l) (hn : n ≤ 400000000) :
    Calls Tryd.prog 27 #[.slice A n c, .slice A' n c'] w fun e w' => e = .returned (.bool true) ∧ Below w.heap.size w w' := by
  have HL := Lib.hid hs.1
  have hd : ((n : Int) != (n : Int)) = false := by simp
  go_enter Tryd.func27, Tryd.ntmps27
  go_wp2
  go_loopw [5] (fun i wr => ∃ k : Nat, k ≤ n ∧ i = .int .i64 k ∧ Hid (∃ q, wr = w.drewN q)) (fun i _ => n - (intOf i).toNat)
  case atStart => exact ⟨0, Nat.zero_le _, rfl, ⟨0, rfl⟩⟩
  case round =>
    obtain ⟨k, hk, rfl, HW⟩ := hrel
    obtain ⟨q, rfl⟩ := HW.out
    clear HW
    by_cases hlt : k < n
    · obtain ⟨b, off, rfl, hbB, hcs⟩ := hs.2 (by omega)
      obtain ⟨b', off', rfl, hbB', hcs'⟩ := hs'.2 (by omega)
      have hkl : k < l.length := by rw [HL.out]; exact hlt
      have hx : w.cell? ⟨b, off + k, none⟩ = some (.string l[k]) := hcs k hkl
      have hy : w.cell? ⟨b', off' + k, none⟩ = some (.string l[k]) := hcs' k hkl
      have hbb : (l[k].data.toList == l[k].data.toList) = true := by simp
      clear hcs hcs' hs hs'
      go_wp2
      go_quiet (fail)
      go_wp2
      go_roundw
      case rel => exact ⟨k + 1, by omega, by go_num, ⟨_, rfl⟩⟩
      case measure => simp [intOf]; omega
    · go_wp2
      go_ret
      exact ⟨rfl, drewN_below _ _ _⟩
end Go.Proofs.YtkpcanigdppegaaDoor.SameS

/- What the law's own helpers eqByteS, markByteS and heldByteS do on slices of bytes. Condition: fewer than 400000001 bytes. -/
namespace Go.Proofs.YtkpcanigdppegaaDoor.Eq
open Go.RowKit Go.Proofs.YtkpcanigdppegaaDoor.Mem

theorem cast_ne {a b : UInt8} (h : a ≠ b) : ((a.toNat : Int) != (b.toNat : Int)) = true := by
  rw [bne_iff_ne]; intro e; exact h (UInt8.toNat_inj.1 (by omega))
theorem cast_eq {a b : UInt8} (h : a = b) : ((a.toNat : Int) != (b.toNat : Int)) = false := by subst h; simp

/-- Two lists that agree as far as k, and part at k. -/
theorem ne_at {l m : List UInt8} {k : Nat} (h : k < l.length) (h' : k < m.length) (hne : l[k] ≠ m[k]) : (l == m) = false := by
  rw [beq_eq_false_iff_ne]; rintro rfl; exact hne rfl
theorem eq_all {l m : List UInt8} (hl : l.length = m.length) (h : l.take l.length = m.take l.length) : (l == m) = true := by
  rw [List.take_length, hl, List.take_length] at h; simp [h]
theorem take_step {l m : List UInt8} {k : Nat} (hk : k < l.length) (hk' : k < m.length) (h : l.take k = m.take k) (he : l[k] = m[k]) : l.take (k + 1) = m.take (k + 1) := by
  rw [List.take_succ_eq_append_getElem hk, List.take_succ_eq_append_getElem hk', h, he]

/-- The numbers that markByteS lays: k, k + 1 and so on, as bytes. -/
def marks : Nat → Nat → List Value
  | _, 0 => []
  | k, n + 1 => Value.int .u8 ((k : Int) % 256) :: marks (k + 1) n
theorem marks_length (k n : Nat) : (marks k n).length = n := by
  induction n generalizing k with
  | zero => rfl
  | succ n ih => simp [marks, ih]
theorem marks_at (k n j : Nat) (h : j < n) : (marks k n)[j]? = some (Value.int .u8 (((k : Int) + (j : Int)) % 256)) := by
  induction n generalizing k j with
  | zero => omega
  | succ n ih =>
    cases j with
    | zero => simp [marks]
    | succ j => simp only [marks, List.getElem?_cons_succ]; rw [ih (k + 1) j (by omega)]; rw [show ((k + 1 : Nat) : Int) + (j : Int) = (k : Int) + ((j + 1 : Nat) : Int) by omega]
theorem marks_snoc (k n : Nat) : marks k (n + 1) = marks k n ++ [Value.int .u8 (((k : Int) + (n : Int)) % 256)] := by
  induction n generalizing k with
  | zero => simp [marks]
  | succ n ih => rw [marks, ih (k + 1), marks, List.cons_append, show ((k + 1 : Nat) : Int) + (n : Int) = (k : Int) + ((n + 1 : Nat) : Int) by omega]

theorem mark_step (cs : List Value) (k j n : Nat) (hj : j < n) (hn : n ≤ cs.length) :
    (marks k j ++ cs.drop j).set j (Value.int .u8 (((k : Int) + (j : Int)) % 256)) = marks k (j + 1) ++ cs.drop (j + 1) := by
  rw [List.set_append_right _ _ (by rw [marks_length]; omega), marks_length, Nat.sub_self, List.drop_eq_getElem_cons (by omega), List.set_cons_zero, marks_snoc, List.append_assoc]
  rfl
theorem mark_at (cs : List Value) (k j : Nat) (hj : j < cs.length) : (marks k j ++ cs.drop j)[j]? = some cs[j] := by
  rw [List.getElem?_append_right (by rw [marks_length]; omega), marks_length, Nat.sub_self, List.drop_eq_getElem_cons hj]
  rfl

theorem grown_set {w wr : World} {g : Nat} (h : w.grownBy wr (some g)) (j : Nat) (u : Value) : w.grownBy (wr.setCell ⟨g, j, none⟩ u) (some g) :=
  ⟨h.os, h.tape, h.output, by simpa [World.setCell] using h.size, fun k hk hne => by
    rw [Below.heap_setCell _ _ _ _ (fun e => hne (by simp [e]))]; exact h.block k hk hne⟩

theorem byte_ne_self (x : Int) : (x != x) = false := by simp

end Go.Proofs.YtkpcanigdppegaaDoor.Eq

/- What the laws' own comparison of two slices of bytes does. Condition: fewer than 400000001 bytes. -/
namespace Go.Proofs.YtkpcanigdppegaaDoor.Same
open Go.RowKit Go.Proofs.YtkpcanigdppegaaDoor.Mem Go.Proofs.YtkpcanigdppegaaDoor.Eq

theorem big_no (A : Option Addr) (n c : Nat) (w : World) (h : n ≤ 1048576) : Calls Tryd.prog 6 #[.slice A n c] w fun e w' => e = .returned (.bool false) ∧ w = w' := by
  have hd : decide ((1048576 : Int) < (n : Int)) = false := by simp; omega
  go_enter Tryd.func6, Tryd.ntmps6
  go_wp2
  go_ret
  exact ⟨rfl, rfl⟩
theorem big_yes (A : Option Addr) (n c : Nat) (w : World) (h : ¬ n ≤ 1048576) : Calls Tryd.prog 6 #[.slice A n c] w fun e w' => e = .returned (.bool true) ∧ w = w' := by
  have hd : decide ((1048576 : Int) < (n : Int)) = true := by simp; omega
  go_enter Tryd.func6, Tryd.ntmps6
  go_wp2
  go_ret
  exact ⟨rfl, rfl⟩
end Go.Proofs.YtkpcanigdppegaaDoor.Same

/- The law FnZonesBent returns true at every slice of bytes and turns nothing that was there: of drawn zones, valid or not, the functions of chapter 10 return what their models return, and a valid zone has 2 to 20 records. -/
namespace Go.Proofs.YtkpcanigdppegaaDoor.LawZbent
open Go.RowKit Go.Proofs.YtkpcanigdppegaaDoor.Mem Go.Proofs.YtkpcanigdppegaaDoor.MemR Go.Proofs.YtkpcanigdppegaaDoor.MemS Go.Proofs.YtkpcanigdppegaaDoor.MemZ Go.Proofs.YtkpcanigdppegaaDoor.BoxR Go.Proofs.YtkpcanigdppegaaDoor.SetMath Go.Proofs.YtkpcanigdppegaaDoor.NameMath Go.Proofs.YtkpcanigdppegaaDoor.ZoneMath Go.Proofs.YtkpcanigdppegaaDoor.Labels Go.Proofs.YtkpcanigdppegaaDoor.RecOk Go.Proofs.YtkpcanigdppegaaDoor.ZokMath Go.Proofs.YtkpcanigdppegaaDoor.CutOfS Go.Proofs.YtkpcanigdppegaaDoor.DrawR Go.Proofs.YtkpcanigdppegaaDoor.DrawZk Go.Proofs.YtkpcanigdppegaaDoor.DrawZg Go.Proofs.YtkpcanigdppegaaDoor.Same Go.Proofs.YtkpcanigdppegaaDoor.Wt

theorem two_le {l : List Rec} {a b : Rec} (ha : a ∈ l) (hb : b ∈ l) (hne : a ≠ b) : 2 ≤ l.length := by
  match l, ha, hb with
  | [], ha, _ => cases ha
  | [x], ha, hb => exact absurd ((List.mem_singleton.1 ha).trans (List.mem_singleton.1 hb).symm) hne
  | x :: y :: t, _, _ => simp

theorem valid_len {s : ByteArray} {l : List Rec} (h : zok s l = true) : 2 ≤ l.length ∧ l.length ≤ 20 := by
  have hz := dec_iff.1 h
  refine ⟨?_, hz.1.2⟩
  have h6 := hz.2.2.1
  unfold n6 at h6
  obtain ⟨r, hr⟩ := List.length_eq_one_iff.1 h6
  obtain ⟨h1, h2⟩ := List.mem_filter.1 (by rw [hr]; exact List.mem_singleton.2 rfl : r ∈ l.filter (fun r => decide (r.ty = 6)))
  obtain ⟨q, hq⟩ := List.exists_mem_of_length_pos hz.2.2.2
  obtain ⟨h3, h4⟩ := List.mem_filter.1 hq
  refine two_le h1 h3 (fun e => ?_)
  have e1 : r.ty = 6 := by simpa using h2
  have e2 := (isk_iff.1 h4).2
  rw [e] at e1
  omega

theorem sml_mod {l : List Rec} (h : ∀ r ∈ l, Sml r) : ∀ r ∈ l, Mod r := fun r hr => by
  have := h r hr
  exact ⟨by have := this.1; omega, by have := this.2.1; omega, by have := this.2.2; omega⟩

theorem kept3 {w0 w w' : World} {g1 g2 g3 : Nat} {t1 t2 t3 : ByteArray} {x1 x2 x3 : Value} (m : (Zx w g1 t1 x1 ∧ Zx w g2 t2 x2 ∧ Zx w g3 t3 x3) ∧ Svz w0 w) (hl : Below w.heap.size w w') : (Zx w' g1 t1 x1 ∧ Zx w' g2 t2 x2 ∧ Zx w' g3 t3 x3) ∧ Svz w0 w' :=
  ⟨⟨m.1.1.below hl, m.1.2.1.below hl, m.1.2.2.below hl⟩, m.2.trans (hl.mono m.2.size)⟩

theorem kept3_draw {w0 w : World} {g1 g2 g3 : Nat} {t1 t2 t3 : ByteArray} {x1 x2 x3 : Value} (m : (Zx w g1 t1 x1 ∧ Zx w g2 t2 x2 ∧ Zx w g3 t3 x3) ∧ Svz w0 w) : (Zx w.drew g1 t1 x1 ∧ Zx w.drew g2 t2 x2 ∧ Zx w.drew g3 t3 x3) ∧ Svz w0 w.drew := kept3 m ((Below.refl _ _).drew)

set_option maxRecDepth 100000 in
set_option maxHeartbeats 16000000 in
theorem walk (A : Option Addr) (n c : Nat) (l : List UInt8) (w : World) (he : Env w) (hs : Sl w w.heap.size A n l) (_hc : n ≤ c) (_hnil : A = none → n = 0 ∧ c = 0) :
    Calls Tryd.prog 4 #[.slice A n c] w fun e w' => e = .returned (.bool true) ∧ Below w.heap.size w w' := by
  have mixed : Tryd.prog.follows .mixedOrders = true := by kernel_rfl
  by_cases hbig : n ≤ 1048576
  case neg =>
    go_enter Tryd.func4, Tryd.ntmps4
    go_wp2_with fail
    refine (big_yes A n c w hbig).mono ?_
    rintro e w1 ⟨rfl, rfl⟩
    go_wp2
    go_ret
    exact ⟨rfl, Below.refl _ _⟩
  have HS := Lib.hid hs
  have HE := Lib.hid he
  clear hs he
  go_enter Tryd.func4, Tryd.ntmps4
  go_wp2_with fail
  refine (big_no A n c w hbig).mono ?_
  rintro e w0 ⟨rfl, rfl⟩
  have L0 : Hid (Below w.heap.size w w) := Below.refl _ _
  go_wp2_with fail
  refine (drawZoneOk_any A n c l w HS.out hbig).mono ?_
  rintro e w1 ⟨s1, b1, o1, m1, c1, J1, rfl, hs1, hm1, hsm, hsr, hl⟩
  have L1 := Lib.hid (L0.out.trans (hl.mono L0.out.size))
  clear L0 
  have hal : Below w1.heap.size w1 (w1.alloc (.cells #[.string s1, .slice (some ⟨b1, o1, none⟩) m1 c1] 26)) := (Below.refl _ _).alloc (Nat.le_refl _) _
  have SM1 := Lib.hid hsm
  clear hsm
  have S1_1 := Lib.hid hsr
  clear hsr hl
  have S1_2 := Lib.hid (S1_1.out.on hal)
  have L2 := Lib.hid (L1.out.trans (hal.mono L1.out.size))
  have X1_2 := Lib.hid (zx_new w1 26 s1 (.slice (some ⟨b1, o1, none⟩) m1 c1))
  clear L1 S1_1
  clear hal
  go_upto_region 4 with (fail)
  generalize w1.alloc (.cells #[.string s1, .slice (some ⟨b1, o1, none⟩) m1 c1] 26) = w2 at *
  generalize w1.heap.size = z1 at *
  go_wp2_with fail
  refine (drawCutOf_any A n c l _ ((HS.out.below L2.out).wider L2.out.size) hbig).mono ?_
  rintro e w3 ⟨s2, b2, o2, m2, c2, J2, q2, rfl, hs2, hq2, hm2, hsm, hsr, hl⟩
  have S1_3 := Lib.hid (S1_2.out.on hl)
  have X1_3 := Lib.hid (X1_2.out.below hl)
  have L3 := Lib.hid (L2.out.trans (hl.mono L2.out.size))
  clear L2 S1_2 X1_2
  have hal : Below w3.heap.size w3 (w3.alloc (.cells #[.string s2, .slice (some ⟨b2, o2, none⟩) m2 c2] 26)) := (Below.refl _ _).alloc (Nat.le_refl _) _
  have SM2 := Lib.hid hsm
  clear hsm
  have S2_3 := Lib.hid hsr
  clear hsr hl
  have S1_4 := Lib.hid (S1_3.out.on hal)
  have X1_4 := Lib.hid (X1_3.out.below hal)
  have S2_4 := Lib.hid (S2_3.out.on hal)
  have L4 := Lib.hid (L3.out.trans (hal.mono L3.out.size))
  have X2_4 := Lib.hid (zx_new w3 26 s2 (.slice (some ⟨b2, o2, none⟩) m2 c2))
  clear L3 S1_3 X1_3 S2_3
  clear hal
  go_upto_region 5 with (fail)
  generalize w3.alloc (.cells #[.string s2, .slice (some ⟨b2, o2, none⟩) m2 c2] 26) = w4 at *
  generalize w3.heap.size = z2 at *
  have NM2 : Hid (∀ r ∈ J2, r.name.size ≤ 400000000) := fun r hr => (sml_mod SM2.out r hr).1
  have CI := Lib.hid (fun W hW => CutOfI.impl s2 q2 b2 o2 m2 c2 J2 W hW (by omega) (by omega) (by omega) NM2.out)
  have CS := Lib.hid (fun W hW => CutOfS.spec s2 q2 b2 o2 m2 c2 J2 W hW (by omega) (by omega) (by omega) NM2.out)
  obtain ⟨x, b, hxb⟩ : ∃ x b, cv (co q2 (uq (cn s2 J2))) = .tuple #[.string x, .bool b] := by cases co q2 (uq (cn s2 J2)) <;> exact ⟨_, _, rfl⟩
  rw [hxb] at CI CS
  clear hxb
  have e0 : (x.toList == x.toList) = true := by simp
  have e1 : (x.data.toList == x.data.toList) = true := by simp
  have e2 : (b != b) = false := by simp
  obtain ⟨y0, y1⟩ := X2_4.out
  go_wp2_with fail
  refine (CI.out _ S2_4.out).mono ?_
  rintro e w5 ⟨rfl, hl⟩
  have S1_5 := Lib.hid (S1_4.out.on hl)
  have X1_5 := Lib.hid (X1_4.out.below hl)
  have S2_5 := Lib.hid (S2_4.out.on hl)
  have X2_5 := Lib.hid (X2_4.out.below hl)
  have L5 := Lib.hid (L4.out.trans (hl.mono L4.out.size))
  clear L4 S1_4 X1_4 S2_4 X2_4
  clear hl
  clear y0 y1
  obtain ⟨y0, y1⟩ := X2_5.out
  go_wp2_with fail
  refine (CS.out _ S2_5.out).mono ?_
  rintro e w6 ⟨rfl, hl⟩
  have S1_6 := Lib.hid (S1_5.out.on hl)
  have X1_6 := Lib.hid (X1_5.out.below hl)
  have S2_6 := Lib.hid (S2_5.out.on hl)
  have X2_6 := Lib.hid (X2_5.out.below hl)
  have L6 := Lib.hid (L5.out.trans (hl.mono L5.out.size))
  clear L5 S1_5 X1_5 S2_5 X2_5
  clear hl
  clear y0 y1 CI CS NM2
  clear X2_6 S2_6
  go_wp2_with fail
  refine (drawExists_any A n c l _ ((HS.out.below L6.out).wider L6.out.size) hbig).mono ?_
  rintro e w7 ⟨s3, b3, o3, m3, c3, J3, q3, rfl, hs3, hq3, hm3, hsm, hsr, hl⟩
  have S1_7 := Lib.hid (S1_6.out.on hl)
  have X1_7 := Lib.hid (X1_6.out.below hl)
  have L7 := Lib.hid (L6.out.trans (hl.mono L6.out.size))
  clear L6 S1_6 X1_6
  have hal : Below w7.heap.size w7 (w7.alloc (.cells #[.string s3, .slice (some ⟨b3, o3, none⟩) m3 c3] 26)) := (Below.refl _ _).alloc (Nat.le_refl _) _
  have SM3 := Lib.hid hsm
  clear hsm
  have S3_7 := Lib.hid hsr
  clear hsr hl
  have S1_8 := Lib.hid (S1_7.out.on hal)
  have X1_8 := Lib.hid (X1_7.out.below hal)
  have S3_8 := Lib.hid (S3_7.out.on hal)
  have L8 := Lib.hid (L7.out.trans (hal.mono L7.out.size))
  have X3_8 := Lib.hid (zx_new w7 26 s3 (.slice (some ⟨b3, o3, none⟩) m3 c3))
  clear L7 S1_7 X1_7 S3_7
  clear hal
  go_upto_region 8 with (fail)
  generalize w7.alloc (.cells #[.string s3, .slice (some ⟨b3, o3, none⟩) m3 c3] 26) = w8 at *
  generalize w7.heap.size = z3 at *
  go_wp2_with fail
  refine (drawGlue_any A n c l _ ((HS.out.below L8.out).wider L8.out.size) hbig).mono ?_
  rintro e w9 ⟨s4, b4, o4, m4, c4, J4, gh, nh, ch, H, rfl, hs4, hm4, hh4, hsm, hsr, hss, hl⟩
  have S1_9 := Lib.hid (S1_8.out.on hl)
  have X1_9 := Lib.hid (X1_8.out.below hl)
  have S3_9 := Lib.hid (S3_8.out.on hl)
  have X3_9 := Lib.hid (X3_8.out.below hl)
  have L9 := Lib.hid (L8.out.trans (hl.mono L8.out.size))
  clear L8 S1_8 X1_8 S3_8 X3_8
  have hal : Below w9.heap.size w9 (w9.alloc (.cells #[.string s4, .slice (some ⟨b4, o4, none⟩) m4 c4] 26)) := (Below.refl _ _).alloc (Nat.le_refl _) _
  have SM4 := Lib.hid hsm
  have H9 := Lib.hid hss
  clear hsm hss
  have S4_9 := Lib.hid hsr
  clear hsr hl
  have S1_10 := Lib.hid (S1_9.out.on hal)
  have X1_10 := Lib.hid (X1_9.out.below hal)
  have S3_10 := Lib.hid (S3_9.out.on hal)
  have X3_10 := Lib.hid (X3_9.out.below hal)
  have H10 := Lib.hid ((H9.out.below hal).wider hal.size)
  have S4_10 := Lib.hid (S4_9.out.on hal)
  have L10 := Lib.hid (L9.out.trans (hal.mono L9.out.size))
  have X4_10 := Lib.hid (zx_new w9 26 s4 (.slice (some ⟨b4, o4, none⟩) m4 c4))
  clear L9 S1_9 X1_9 S3_9 X3_9 H9 S4_9
  clear hal
  go_upto_region 9 with (fail)
  generalize w9.alloc (.cells #[.string s4, .slice (some ⟨b4, o4, none⟩) m4 c4] 26) = w10 at *
  generalize w9.heap.size = z4 at *
  have ON1 : Hid (∀ W : World, Svz w10 W → Sr W W.heap.size (some ⟨b1, o1, none⟩) m1 J1) := fun W hW => S1_10.out.on hW
  have ON3 : Hid (∀ W : World, Svz w10 W → Sr W W.heap.size (some ⟨b3, o3, none⟩) m3 J3) := fun W hW => S3_10.out.on hW
  have ON4 : Hid (∀ W : World, Svz w10 W → Sr W W.heap.size (some ⟨b4, o4, none⟩) m4 J4) := fun W hW => S4_10.out.on hW
  have OH4 : Hid (∀ W : World, Svz w10 W → Ss W W.heap.size (some ⟨gh, 0, none⟩) nh H) := fun W hW => (H10.out.below hW).wider hW.size
  have EV : Hid (∀ W : World, Svz w10 W → Env W) := fun W hW => HE.out.below (L10.out.trans ((show Below w10.heap.size w10 W from hW).mono L10.out.size))
  have M1 := Lib.hid (sml_mod SM1.out)
  have N1 : Hid (∀ r ∈ J1, r.name.size ≤ 400000000) := fun r hr => (M1.out r hr).1
  have N3 : Hid (∀ r ∈ J3, r.name.size ≤ 400000000) := fun r hr => (sml_mod SM3.out r hr).1
  have HVL : Hid (zok s1 J1 = true → 2 ≤ m1 ∧ m1 ≤ 20) := fun h => by have h1 := valid_len h; rw [S1_10.out.1] at h1; exact h1
  have HGL : Hid ((gl H J4).length ≤ 400000000) := by
    show _ ≤ _
    have h1 := gl_len H J4
    rw [H10.out.1, S4_10.out.1] at h1
    exact Nat.le_trans h1 (Nat.le_trans (Nat.mul_le_mul hh4 hm4) (by decide))
  have HCL : Hid ((uq (cn s1 J1)).length ≤ 400000000) := by show _ ≤ _; have h1 := len_uq (cn s1 J1); have h2 := cn_len s1 J1; have := S1_10.out.1; omega
  have ZI : Hid (∀ W : World, Svz w10 W → Calls Tryd.prog 10 #[.agg #[.string s1, .slice (some ⟨b1, o1, none⟩) m1 c1]] W fun e w' => e = .returned (.bool (zok s1 J1)) ∧ Below W.heap.size W w') := fun W hW => ZokI.impl s1 b1 o1 m1 c1 J1 W (EV.out W hW) (ON1.out W hW) (by omega) (by omega) M1.out
  have ZS : Hid (∀ W : World, Svz w10 W → Calls Tryd.prog 22 #[.agg #[.string s1, .slice (some ⟨b1, o1, none⟩) m1 c1]] W fun e w' => e = .returned (.bool (zok s1 J1)) ∧ Below W.heap.size W w') := fun W hW => ZokS.spec s1 b1 o1 m1 c1 J1 W (ON1.out W hW) (by omega) (by omega) M1.out
  have EI : Hid (∀ W : World, Svz w10 W → Calls Tryd.prog 13 #[.agg #[.string s3, .slice (some ⟨b3, o3, none⟩) m3 c3], .string q3] W fun e w' => e = .returned (.bool (ex q3 J3)) ∧ Below W.heap.size W w') := fun W hW => ExistsI.impl s3 q3 b3 o3 m3 c3 J3 W (ON3.out W hW) (by omega) (by omega) N3.out
  have ES : Hid (∀ W : World, Svz w10 W → Calls Tryd.prog 23 #[.agg #[.string s3, .slice (some ⟨b3, o3, none⟩) m3 c3], .string q3] W fun e w' => e = .returned (.bool (ex q3 J3)) ∧ Below W.heap.size W w') := fun W hW => ExistsS.spec s3 q3 b3 o3 m3 c3 J3 W (ON3.out W hW) (by omega) (by omega) N3.out
  have II : Hid (∀ W : World, Svz w10 W → Calls Tryd.prog 11 #[.agg #[.string s3, .slice (some ⟨b3, o3, none⟩) m3 c3], .string q3] W fun e w' => e = .returned (.bool (iz s3 q3 J3)) ∧ Below W.heap.size W w') := fun W hW => InZoneI.impl s3 q3 b3 o3 m3 c3 J3 W (ON3.out W hW) (by omega) (by omega) (by omega) N3.out
  have IS : Hid (∀ W : World, Svz w10 W → Calls Tryd.prog 29 #[.agg #[.string s3, .slice (some ⟨b3, o3, none⟩) m3 c3], .string q3] W fun e w' => e = .returned (.bool (iz s3 q3 J3)) ∧ Below W.heap.size W w') := fun W hW => CutOfS.specIn s3 q3 b3 o3 m3 c3 J3 W (ON3.out W hW) (by omega) (by omega) (by omega) N3.out
  have GI : Hid (∀ W : World, Svz w10 W → Calls Tryd.prog 25 #[.agg #[.string s4, .slice (some ⟨b4, o4, none⟩) m4 c4], .slice (some ⟨gh, 0, none⟩) nh ch] W (GivesL W (gl H J4))) := fun W hW => GlueI.impl s4 b4 o4 m4 c4 J4 gh 0 nh ch H W (ON4.out W hW) (OH4.out W hW) (by omega) (by omega)
  have GS : Hid (∀ W : World, Svz w10 W → Calls Tryd.prog 26 #[.agg #[.string s4, .slice (some ⟨b4, o4, none⟩) m4 c4], .slice (some ⟨gh, 0, none⟩) nh ch] W (GivesL W (gl H J4))) := fun W hW => GlueS.spec s4 b4 o4 m4 c4 J4 gh 0 nh ch H W (ON4.out W hW) (OH4.out W hW) (by omega) (by omega)
  have KI : Hid (∀ W : World, Svz w10 W → Calls Tryd.prog 9 #[.agg #[.string s1, .slice (some ⟨b1, o1, none⟩) m1 c1]] W (AppS.GivesS W (uq (cn s1 J1)))) := fun W hW => CutsOfI.impl s1 b1 o1 m1 c1 J1 W (ON1.out W hW) (by omega) (by omega) N1.out
  have KS : Hid (∀ W : World, Svz w10 W → Calls Tryd.prog 28 #[.agg #[.string s1, .slice (some ⟨b1, o1, none⟩) m1 c1]] W (AppS.GivesS W (uq (cn s1 J1)))) := fun W hW => CutsS.spec s1 b1 o1 m1 c1 J1 W (ON1.out W hW) (by omega) (by omega) N1.out
  generalize gl H J4 = G at *
  generalize uq (cn s1 J1) = Q at *
  generalize zok s1 J1 = v1 at *
  generalize ex q3 J3 = v2 at *
  generalize iz s3 q3 J3 = v3 at *
  have n1 : (v1 != v1) = false := by simp
  have n2 : (v2 != v2) = false := by simp
  have n3 : (v3 != v3) = false := by simp
  have RS : Hid (∀ (g h m c c' : Nat) (r r' : List Value) (W : World), G.length = m → Bk W g 39 (fl G ++ r) → Bk W h 39 (fl G ++ r') → Calls Tryd.prog 24 #[.slice (some ⟨g, 0, none⟩) m c, .slice (some ⟨h, 0, none⟩) m c'] W fun e w' => e = .returned (.bool true) ∧ Below W.heap.size W w') := fun g h m c c' r r' W hm h1 h2 => (SameR.sm_true (l := G) rfl) ▸ SameR.recs _ _ m c m c' G G W (bk_sr h1 hm) (bk_sr h2 hm) (by have := HGL.out; omega) (by have := HGL.out; omega)
  have TS : Hid (∀ (g h m c c' : Nat) (r r' : List Value) (W : World), Q.length = m → Bk W g 9 (Q.map tv ++ r) → Bk W h 9 (Q.map tv ++ r') → Calls Tryd.prog 27 #[.slice (some ⟨g, 0, none⟩) m c, .slice (some ⟨h, 0, none⟩) m c'] W fun e w' => e = .returned (.bool true) ∧ Below W.heap.size W w') := fun g h m c c' r r' W hm h1 h2 => SameS.sameStrs_same _ _ m c c' Q W W.heap.size (bk_ssw h1 hm) (bk_ssw h2 hm) (by have := HCL.out; omega)
  have SS0 : ((w10.cell? ⟨z1, 0, none⟩ = some (.string s1) ∧ w10.cell? ⟨z1, 1, none⟩ = some (.slice (some ⟨b1, o1, none⟩) m1 c1)) ∧ (w10.cell? ⟨z3, 0, none⟩ = some (.string s3) ∧ w10.cell? ⟨z3, 1, none⟩ = some (.slice (some ⟨b3, o3, none⟩) m3 c3)) ∧ (w10.cell? ⟨z4, 0, none⟩ = some (.string s4) ∧ w10.cell? ⟨z4, 1, none⟩ = some (.slice (some ⟨b4, o4, none⟩) m4 c4))) ∧ Svz w10 w10 := ⟨⟨X1_10.out, X3_10.out, X4_10.out⟩, Below.refl _ _⟩
  go_wp2
  go_region_held3 (fun w' => ((w'.cell? ⟨z1, 0, none⟩ = some (.string s1) ∧ w'.cell? ⟨z1, 1, none⟩ = some (.slice (some ⟨b1, o1, none⟩) m1 c1)) ∧ (w'.cell? ⟨z3, 0, none⟩ = some (.string s3) ∧ w'.cell? ⟨z3, 1, none⟩ = some (.slice (some ⟨b3, o3, none⟩) m3 c3)) ∧ (w'.cell? ⟨z4, 0, none⟩ = some (.string s4) ∧ w'.cell? ⟨z4, 1, none⟩ = some (.slice (some ⟨b4, o4, none⟩) m4 c4))) ∧ Svz w10 w')
    (first | with_reducible exact SS0 | with_reducible assumption | exact kept3 (by assumption) hl | exact kept3_draw (by assumption) | fail)
    (first
      | (go_at_call 10; (with_reducible refine (ZI.out _ (And.right (by assumption))).mono ?_); rintro e wa1 ⟨rfl, hl⟩)
      | (go_at_call 22; (with_reducible refine (ZS.out _ (And.right (by assumption))).mono ?_); rintro e wa2 ⟨rfl, hl⟩)
      | (go_at_call 13; (with_reducible refine (EI.out _ (And.right (by assumption))).mono ?_); rintro e wa3 ⟨rfl, hl⟩)
      | (go_at_call 23; (with_reducible refine (ES.out _ (And.right (by assumption))).mono ?_); rintro e wa4 ⟨rfl, hl⟩)
      | (go_at_call 25; (with_reducible refine (GI.out _ (And.right (by assumption))).mono ?_); rintro e wa5 ⟨g5, k5, c5, r5, rfl, hm5, hc5, hg5, hb5, hl⟩)
      | (go_at_call 26; (with_reducible refine (GS.out _ (And.right (by assumption))).mono ?_); rintro e wa6 ⟨g6, k6, c6, r6, rfl, hm6, hc6, hg6, hb6, hl⟩; obtain rfl : k5 = k6 := hm5.symm.trans hm6; have hb5' := hb5.below hl hb5.lt)
      | (go_at_call 24; (with_reducible refine (RS.out _ _ _ _ _ _ _ _ hm5 hb5' hb6).mono ?_); rintro e wa7 ⟨rfl, hl⟩)
      | (go_at_call 9; (with_reducible refine (KI.out _ (And.right (by assumption))).mono ?_); rintro e wa8 ⟨g8, k8, c8, r8, rfl, hm8, hc8, hg8, hb8, hl⟩)
      | (go_at_call 28; (with_reducible refine (KS.out _ (And.right (by assumption))).mono ?_); rintro e wa9 ⟨g9, k9, c9, r9, rfl, hm9', hc9, hg9, hb9, hl⟩; obtain rfl : k8 = k9 := hm8.symm.trans hm9'; have hb8' := hb8.below hl hb8.lt)
      | (go_at_call 27; (with_reducible refine (TS.out _ _ _ _ _ _ _ _ hm8 hb8' hb9).mono ?_); rintro e wa10 ⟨rfl, hl⟩)
      | (go_at_call 11; (with_reducible refine (II.out _ (And.right (by assumption))).mono ?_); rintro e wa11 ⟨rfl, hl⟩)
      | (go_at_call 29; (with_reducible refine (IS.out _ (And.right (by assumption))).mono ?_); rintro e wa12 ⟨rfl, hl⟩)
      | fail)
  rename_i hH
  have hz : Svz w10 wa12 := hH.2
  have X9 : Hid (Zx wa12 z1 s1 (.slice (some ⟨b1, o1, none⟩) m1 c1)) := hH.1.1
  have LE := Lib.hid (L10.out.trans ((show Below w10.heap.size w10 wa12 from hz).mono L10.out.size))
  clear hH SS0 RS TS GI GS KI KS II IS EI ES ZS hb5 hb5' hb6 hb8 hb8' hb9 hm5 hc5 hg5 hm6 hc6 hg6 hm8 hc8 hg8 hm9' hc9 hg9
  obtain ⟨y0, y1⟩ := X9.out
  cases v1 with
  | false =>
    go_wp2_with fail
    refine (ZI.out _ hz).mono ?_
    rintro e we ⟨rfl, hl⟩
    have LF := Lib.hid (LE.out.trans (hl.mono LE.out.size))
    clear hl y0 y1
    go_wp2
    go_ret
    exact ⟨rfl, LF.out⟩
  | true =>
    obtain ⟨h2, h20⟩ := HVL.out rfl
    have g1 : (2 : Int) ≤ (m1 : Int) := by omega
    have g2 : (m1 : Int) ≤ 20 := by omega
    go_wp2_with fail
    refine (ZI.out _ hz).mono ?_
    rintro e we ⟨rfl, hl⟩
    have LF := Lib.hid (LE.out.trans (hl.mono LE.out.size))
    have X10 := Lib.hid (X9.out.below hl)
    clear hl y0 y1
    obtain ⟨y0, y1⟩ := X10.out
    go_wp2
    go_ret
    exact ⟨rfl, LF.out⟩

end Go.Proofs.YtkpcanigdppegaaDoor.LawZbent
