/- What KindIn does in the program: the kind of a question's reply, by a map of the records' sets. Condition: fewer than 100000001 records, no name of more than 400000000 bytes. -/
import Derived.Test.YtjgmocmaeadjdaaKindsP5
import Derived.Test.YtjgmocmaeadjdaaKindsP4
import Derived.Test.YtjgmocmaeadjdaaZoneMath
import Derived.Test.YtjgmocmaeadjdaaMemZ
import Derived.Test.YtjgmocmaeadjdaaMemS
import Derived.Test.YtjgmocmaeadjdaaKindsP3
import Derived.Deep.RegionHeld3
/- What CutOf does in the program (a range over the cuts). Condition: fewer than 400000001 records, no name of more than 400000000 bytes. -/
namespace Go.Proofs.Ytjgmocmaeadjdaa.CutOfI
open Go.RowKit Go.Proofs.Ytjgmocmaeadjdaa.Mem Go.Proofs.Ytjgmocmaeadjdaa.MemR Go.Proofs.Ytjgmocmaeadjdaa.SetMath Go.Proofs.Ytjgmocmaeadjdaa.NameMath Go.Proofs.Ytjgmocmaeadjdaa.ZoneMath Go.Proofs.Ytjgmocmaeadjdaa.MemZ Go.Proofs.Ytjgmocmaeadjdaa.MemS Go.Proofs.Ytjgmocmaeadjdaa.AppS

set_option maxHeartbeats 8000000 in
theorem impl (s nm : ByteArray) (b0 o0 n c : Nat) (l : List Rec) (w : World) (hs : Sr w w.heap.size (some ⟨b0, o0, none⟩) n l) (hn : n ≤ 400000000) (hm : s.size ≤ 400000000) (hq : nm.size ≤ 400000000) (hz : ∀ r ∈ l, r.name.size ≤ 400000000) :
    Calls Try.prog 51 #[.agg #[.string s, .slice (some ⟨b0, o0, none⟩) n c], .string nm] w fun e w' => e = .returned (cv (co nm (uq (cn s l)))) ∧ Below w.heap.size w w' := by
  have L0 := Lib.hid ((Below.refl w.heap.size w).alloc (Nat.le_refl _) (.cells #[.string s, .slice (some ⟨b0, o0, none⟩) n c] 26))
  have X0 := Lib.hid (zx_new w 26 s (.slice (some ⟨b0, o0, none⟩) n c))
  have CS := Lib.hid (fun W hW => CutsOfI.impl s b0 o0 n c l W hW hn hm hz)
  have S0 := Lib.hid (hs.on L0.out)
  have HLN : Hid ((uq (cn s l)).length ≤ 400000000) := by show _ ≤ _; have h1 := len_uq (cn s l); have h2 := cn_len s l; have := hs.1; omega
  have HZ : Hid (∀ x ∈ uq (cn s l), x.size ≤ 400000000) := fun x hx => by obtain ⟨r, hr, rfl⟩ := cn_mem (mem_uq.1 hx); exact hz r hr
  clear hs hz
  generalize uq (cn s l) = L at *
  obtain ⟨x0, x1⟩ := X0.out
  go_enter Try.func51, Try.ntmps51
  go_wp2_with fail
  refine (CS.out _ S0.out).mono ?_
  rintro e w1 ⟨g, m, cap, r', rfl, hlm, hmc, hg, hb, hl⟩
  have HM := Lib.hid hlm
  have hm' : m ≤ 400000000 := by have := HLN.out; omega
  have B1 := Lib.hid hb
  have L1 := Lib.hid (L0.out.trans (hl.mono L0.out.size))
  clear hlm hmc hg hb hl CS S0 X0 L0 x0 x1 HLN
  go_wp2
  go_loopw [11] (fun i wr => ∃ k : Nat, k ≤ m ∧ i = .int .i64 k ∧ Hid (co nm (L.take k) = none) ∧ Hid (Bk wr g 9 (L.map tv ++ r')) ∧ Hid (Below w.heap.size w wr)) (fun i _ => m - (intOf i).toNat)
  case atStart => exact ⟨0, Nat.zero_le _, rfl, rfl, B1.out, L1.out⟩
  case round =>
    clear B1 L1
    obtain ⟨k, hk, rfl, HE, HB, HL⟩ := hrel
    by_cases hlt : k < m
    · have hkl : k < L.length := by rw [HM.out]; exact hlt
      have e0 : wr.cell? ⟨g, k, none⟩ = some (.string L[k]) := by
        rw [HB.out.cell, List.getElem?_append_left (by rw [List.length_map]; exact hkl), tv_get]
      have HH := Lib.hid (fun e => co_hit nm L k hkl e HE.out)
      have HN := Lib.hid (fun e => co_next nm L k hkl e HE.out)
      have HY := Lib.hid (HZ.out _ (List.getElem_mem hkl))
      generalize L[k] = y at *
      have US := Lib.hid (fun W => UnderImpl.impl nm y W hq HY.out)
      generalize Un nm y = u at *
      go_wp2_with fail
      refine (US.out _).mono ?_
      rintro e w2 ⟨rfl, rfl⟩
      have B2 := Lib.hid HB.out
      have L2 := Lib.hid HL.out
      clear US e0 HB HL
      cases u with
      | true =>
        have HF := Lib.hid (HH.out rfl)
        clear HH HN
        go_wp2
        go_ret2
        exact ⟨congrArg (fun b => Ending.returned (cv b)) HF.out.symm, L2.out⟩
      | false =>
        have HF := Lib.hid (HN.out rfl)
        clear HH HN
        go_wp2
        go_roundw
        case rel => exact ⟨k + 1, by omega, by go_num, HF.out, B2.out, L2.out⟩
        case measure => simp [intOf]; omega
    · obtain rfl : m = k := by omega
      have HF : Hid (co nm L = none) := by rw [take_all HM.out] at HE; exact HE
      go_wp2
      go_ret2
      exact ⟨congrArg (fun b => Ending.returned (cv b)) HF.out.symm, HL.out⟩

end Go.Proofs.Ytjgmocmaeadjdaa.CutOfI

/- What StartOf does in the program (a range over the zone's records): the first record of the start's type, or a record with nothing in it. Condition: fewer than 400000001 records. -/
namespace Go.Proofs.Ytjgmocmaeadjdaa.StartOfI
open Go.RowKit Go.Proofs.Ytjgmocmaeadjdaa.Mem Go.Proofs.Ytjgmocmaeadjdaa.MemR Go.Proofs.Ytjgmocmaeadjdaa.SetMath Go.Proofs.Ytjgmocmaeadjdaa.ZoneMath Go.Proofs.Ytjgmocmaeadjdaa.MemZ Go.Proofs.Ytjgmocmaeadjdaa.ResR Go.Proofs.Ytjgmocmaeadjdaa.StartS

set_option maxRecDepth 100000 in
set_option maxHeartbeats 8000000 in
theorem impl (s : ByteArray) (b0 o0 n c : Nat) (l : List Rec) (w : World) (hs : Sr w w.heap.size (some ⟨b0, o0, none⟩) n l) (hn : n ≤ 400000000) (_ : s.size ≤ 400000000) (_ : ∀ r ∈ l, r.name.size ≤ 400000000) :
    Calls Try.prog 76 #[.agg #[.string s, .slice (some ⟨b0, o0, none⟩) n c]] w fun e w' => e = .returned (.agg #[.string ((st l)).name, .int .i64 ((st l)).ty, .int .i64 ((st l)).ttl, .int .i64 ((st l)).n, .string ((st l)).host, .string ((st l)).text]) ∧ Below w.heap.size w w' := by
  have Z0 := Lib.hid ((zx_new w 26 s (.slice (some ⟨b0, o0, none⟩) n c)).alloc (.cells #[.string ⟨#[]⟩, .int .i64 0, .int .i64 0, .int .i64 0, .string ⟨#[]⟩, .string ⟨#[]⟩] 56))
  have R0 := Lib.hid (box2 (w := w) (a := .cells #[.string s, .slice (some ⟨b0, o0, none⟩) n c] 26) (cs := #[.string ⟨#[]⟩, .int .i64 0, .int .i64 0, .int .i64 0, .string ⟨#[]⟩, .string ⟨#[]⟩]) (t := 56))
  have L0 := Lib.hid (((Below.refl w.heap.size w).alloc (Nat.le_refl _) (.cells #[.string s, .slice (some ⟨b0, o0, none⟩) n c] 26)).alloc (by simp) (.cells #[.string ⟨#[]⟩, .int .i64 0, .int .i64 0, .int .i64 0, .string ⟨#[]⟩, .string ⟨#[]⟩] 56))
  have HS := Lib.hid hs
  clear hs
  go_enter Try.func76, Try.ntmps76
  go_wp2
  generalize (w.alloc (.cells #[.string s, .slice (some ⟨b0, o0, none⟩) n c] 26)).alloc (.cells #[.string ⟨#[]⟩, .int .i64 0, .int .i64 0, .int .i64 0, .string ⟨#[]⟩, .string ⟨#[]⟩] 56) = w0 at *
  go_loopw [8] (fun i wr => ∃ k : Nat, k ≤ n ∧ i = .int .i64 k ∧ Hid (Bk wr (w.heap.size + 1) 56 (rc zr)) ∧ Hid (Below w.heap.size w wr) ∧ Hid (∀ r ∈ l.take k, r.ty ≠ 6)) (fun i _ => n - (intOf i).toNat)
  case atStart => exact ⟨0, Nat.zero_le _, rfl, R0.out, L0.out, fun r hr => by simp at hr⟩
  case round =>
    clear Z0 R0 L0
    obtain ⟨k, hk, rfl, HR, HL, HE⟩ := hrel
    by_cases hlt : k < n
    · obtain ⟨b, off, hA, hbB, hcs⟩ := HS.out.2 (by omega)
      obtain ⟨rfl, rfl⟩ : b0 = b ∧ o0 = off := by simp at hA; exact hA
      clear hA
      have hkl : k < l.length := by rw [HS.out.1]; exact hlt
      obtain ⟨e0, e1, e2, e3, e4, e5⟩ := (hcs k hkl).below HL.out hbB
      clear hcs
      have HH := Lib.hid (fun e => st_hit l k hkl e HE.out)
      have HN := Lib.hid (fun e => st_next l k hkl e HE.out)
      generalize l[k] = r at *
      have R1 := Lib.hid (HR.out.alloc (.cells #[.string r.name, .int .i64 r.ty, .int .i64 r.ttl, .int .i64 r.n, .string r.host, .string r.text] 56))
      have L1 := Lib.hid (HL.out.alloc HL.out.size (.cells #[.string r.name, .int .i64 r.ty, .int .i64 r.ttl, .int .i64 r.n, .string r.host, .string r.text] 56))
      clear HR HL
      by_cases hty : r.ty = 6
      · have HF := Lib.hid (HH.out hty)
        have t0 : (r.ty == 6) = true := by simpa using hty
        clear hty HH HN
        have r0 : (wr.alloc (.cells #[.string r.name, .int .i64 r.ty, .int .i64 r.ttl, .int .i64 r.n, .string r.host, .string r.text] 56)).cell? ⟨w.heap.size + 1, 0, none⟩ = some (.string ⟨#[]⟩) := R1.out.cell 0
        have r1 : (wr.alloc (.cells #[.string r.name, .int .i64 r.ty, .int .i64 r.ttl, .int .i64 r.n, .string r.host, .string r.text] 56)).cell? ⟨w.heap.size + 1, 1, none⟩ = some (.int .i64 0) := R1.out.cell 1
        have r2 : (wr.alloc (.cells #[.string r.name, .int .i64 r.ty, .int .i64 r.ttl, .int .i64 r.n, .string r.host, .string r.text] 56)).cell? ⟨w.heap.size + 1, 2, none⟩ = some (.int .i64 0) := R1.out.cell 2
        have r3 : (wr.alloc (.cells #[.string r.name, .int .i64 r.ty, .int .i64 r.ttl, .int .i64 r.n, .string r.host, .string r.text] 56)).cell? ⟨w.heap.size + 1, 3, none⟩ = some (.int .i64 0) := R1.out.cell 3
        have r4 : (wr.alloc (.cells #[.string r.name, .int .i64 r.ty, .int .i64 r.ttl, .int .i64 r.n, .string r.host, .string r.text] 56)).cell? ⟨w.heap.size + 1, 4, none⟩ = some (.string ⟨#[]⟩) := R1.out.cell 4
        have r5 : (wr.alloc (.cells #[.string r.name, .int .i64 r.ty, .int .i64 r.ttl, .int .i64 r.n, .string r.host, .string r.text] 56)).cell? ⟨w.heap.size + 1, 5, none⟩ = some (.string ⟨#[]⟩) := R1.out.cell 5
        have q0 := R1.out.free 0
        have q1 := R1.out.free 1
        have q2 := R1.out.free 2
        have q3 := R1.out.free 3
        have q4 := R1.out.free 4
        have q5 := R1.out.free 5
        have F := Lib.hid (fil_bk (r0 := zr) R1.out r)
        have E := Lib.hid (fil_below L1.out (g := w.heap.size + 1) (by omega) r)
        go_wp2
        exact bodyPost_ret (v := .agg #[.string r.name, .int .i64 r.ty, .int .i64 r.ttl, .int .i64 r.n, .string r.host, .string r.text]) (res1 rfl F.out rfl) rfl ⟨by rw [HF.out], E.out⟩
      · have HF := Lib.hid (HN.out hty)
        have t0 : (r.ty == 6) = false := by simpa using hty
        clear hty HH HN
        go_wp2
        go_roundw
        case rel => exact ⟨k + 1, by omega, by go_num, R1.out, L1.out, HF.out⟩
        case measure => simp [intOf]; omega
    · obtain rfl : n = k := by omega
      have HF := Lib.hid (st_none l (by rw [take_all HS.out.1] at HE; exact HE.out))
      have r0 : wr.cell? ⟨w.heap.size + 1, 0, none⟩ = some (.string ⟨#[]⟩) := HR.out.cell 0
      have r1 : wr.cell? ⟨w.heap.size + 1, 1, none⟩ = some (.int .i64 0) := HR.out.cell 1
      have r2 : wr.cell? ⟨w.heap.size + 1, 2, none⟩ = some (.int .i64 0) := HR.out.cell 2
      have r3 : wr.cell? ⟨w.heap.size + 1, 3, none⟩ = some (.int .i64 0) := HR.out.cell 3
      have r4 : wr.cell? ⟨w.heap.size + 1, 4, none⟩ = some (.string ⟨#[]⟩) := HR.out.cell 4
      have r5 : wr.cell? ⟨w.heap.size + 1, 5, none⟩ = some (.string ⟨#[]⟩) := HR.out.cell 5
      have q0 := HR.out.free 0
      have q1 := HR.out.free 1
      have q2 := HR.out.free 2
      have q3 := HR.out.free 3
      have q4 := HR.out.free 4
      have q5 := HR.out.free 5
      have F := Lib.hid (fil_bk (r0 := zr) HR.out zr)
      have E := Lib.hid (fil_below HL.out (g := w.heap.size + 1) (by omega) zr)
      go_wp2
      exact bodyPost_ret (v := .agg #[.string zr.name, .int .i64 zr.ty, .int .i64 zr.ttl, .int .i64 zr.n, .string zr.host, .string zr.text]) (res1 rfl F.out rfl) rfl ⟨by rw [HF.out], E.out⟩
end Go.Proofs.Ytjgmocmaeadjdaa.StartOfI

/- What Glue does in the program: the addresses of the hosts, in their order, out of a map of groups. Condition: at most 1048576 records and as many hosts (so the result may have many more). -/
namespace Go.Proofs.Ytjgmocmaeadjdaa.GlueI
open Go.RowKit Go.Proofs.Ytjgmocmaeadjdaa.Mem Go.Proofs.Ytjgmocmaeadjdaa.MemR Go.Proofs.Ytjgmocmaeadjdaa.SetMath Go.Proofs.Ytjgmocmaeadjdaa.ZoneMath Go.Proofs.Ytjgmocmaeadjdaa.MemZ Go.Proofs.Ytjgmocmaeadjdaa.MemS Go.Proofs.Ytjgmocmaeadjdaa.MemQ Go.Proofs.Ytjgmocmaeadjdaa.MapK Go.Proofs.Ytjgmocmaeadjdaa.MapE Go.Proofs.Ytjgmocmaeadjdaa.GrpM Go.Proofs.Ytjgmocmaeadjdaa.AppR Go.Proofs.Ytjgmocmaeadjdaa.Wt Go.Proofs.Ytjgmocmaeadjdaa.SetI

/-- append of a slice of records onto a row of the call's own, up to many records. -/
theorem append_wide {w : World} {ops : Array Oper} {rest : List Oper} {o : Oper} {a : Act} {Q : Exit → Act → World → Prop} (hgd : o.guard = none) (s x : Operand)
    (ho : o.op = .call { callee := .builtin .append, args := #[s, x], argTypes := #[24, 24] })
    (base g n cap : Nat) (L : List Rec) (hs : a.eval s = .slice (some ⟨g, 0, none⟩) n cap) (hown : w.ownsRow base 56 6 (.slice (some ⟨g, 0, none⟩) n cap) n (fl L))
    (b off m c B : Nat) (l : List Rec) (hx : a.eval x = .slice (some ⟨b, off, none⟩) m c) (hl : Sr w B (some ⟨b, off, none⟩) m l)
    (hnm : n + m ≤ 1900000000000) (hbase : base ≤ w.heap.size)
    (h : ∀ g' cap' w', w'.ownsRow base 56 6 (.slice (some ⟨g', 0, none⟩) (n + m) cap') (n + m) (fl (L ++ l)) → w.grownBy w' (some g) → wpList Try.prog ops Q rest (a.put o.dst (.slice (some ⟨g', 0, none⟩) (n + m) cap')) w') : wpList Try.prog ops Q (o :: rest) a w := by
  obtain ⟨i0, hi, hz0, hz1, hz2⟩ := info_parts CopyR.info
  exact wpList_append_own w hgd s x 24 ho base 56 i0 _ 6 72 Try.underlying24 hi hz0 hz1 hz2 rfl (by decide) _ n (fl L) hs hown ⟨b, off, none⟩ m c (fl l) hx (by rw [fl_len, hl.1]) (cells_of hl) (one_fl l) (by unfold maxLen; omega) (by omega) hbase
    (fun v' w' h1 h2 h3 => by
      rcases h1.2 with ⟨hv, _⟩ | ⟨g', cap', cur, hv, _⟩
      · have := (h3.1 hv).1
        cases this
      · subst hv
        exact h g' cap' w' (by rw [fl_append]; exact h1) h2)

set_option maxRecDepth 100000 in
set_option maxHeartbeats 8000000 in
theorem impl (s : ByteArray) (b0 o0 n c : Nat) (l : List Rec) (b1 o1 nh ch : Nat) (H : List ByteArray) (w : World) (hs : Sr w w.heap.size (some ⟨b0, o0, none⟩) n l) (hh : Ss w w.heap.size (some ⟨b1, o1, none⟩) nh H) (hn : n ≤ 1048576) (hnh : nh ≤ 1048576) :
    Calls Try.prog 74 #[.agg #[.string s, .slice (some ⟨b0, o0, none⟩) n c], .slice (some ⟨b1, o1, none⟩) nh ch] w (GivesL w (gl H l)) := by
  have L0 := Lib.hid ((Below.refl w.heap.size w).alloc (Nat.le_refl _) (.cells #[.string s, .slice (some ⟨b0, o0, none⟩) n c] 26))
  have X0 := Lib.hid (zx_new w 26 s (.slice (some ⟨b0, o0, none⟩) n c))
  have SE := Lib.hid (fun W hW => SetI.sets b0 o0 n c l W hW (by omega))
  have S0 := Lib.hid (hs.on L0.out)
  have HH := Lib.hid hh
  have HN := Lib.hid hs.1
  clear hs hh
  obtain ⟨x0, x1⟩ := X0.out
  go_enter Try.func74, Try.ntmps74
  obtain ⟨i0, hi, hz0, hz1, hz2⟩ := info_parts CopyR.info
  go_wp2_with fail
  refine (SE.out _ S0.out).mono ?_
  rintro e w1 ⟨bm, rfl, hbm, ⟨es, hm, hq, ho, hd⟩, hl⟩
  have L1 := Lib.hid (L0.out.trans (hl.mono L0.out.size))
  have M1 := Lib.hid hm
  have HQ := Lib.hid hq
  have HS' := Lib.hid (ev_key es)
  have HND := Lib.hid (ev_nodup (es := es) (by rw [hq]; exact nodup_uq _))
  have R1 : Hid (∀ (j : Nat) (e : Ge), es[j]? = some e → (sq e.q l).length = e.m ∧ Sr w1 w1.heap.size (some ⟨e.g, 0, none⟩) e.m (sq e.q l)) := fun j e hj => by
    have hz := own_m (ho j e hj)
    obtain ⟨r', hb, _⟩ := bk_of_owns6 (ho j e hj)
    exact ⟨hz, bk_sr hb hz⟩
  have KT := KeyT.quests
  have P2 := Lib.hid (AppR.owns_new w1)
  have L2 := Lib.hid ((Below.refl w1.heap.size w1).alloc (Nat.le_refl _) (.cells #[] 56))
  clear hm hq ho hd hl SE hbm L0 X0 S0 x0 x1
  go_wp2
  generalize w1.alloc (.cells #[] 56) = w2 at *
  go_loopw [6, 15] (fun out i wr => ∃ k g m cap : Nat, k ≤ nh ∧ m ≤ k * n ∧ i = .int .i64 k ∧ out = .slice (some ⟨g, 0, none⟩) m cap ∧ Hid (wr.ownsRow w1.heap.size 56 6 (.slice (some ⟨g, 0, none⟩) m cap) m (fl (gl (H.take k) l))) ∧ Hid (Below w1.heap.size w1 wr)) (fun _ i _ => nh - (intOf i).toNat)
  case atStart => exact ⟨0, w1.heap.size, 0, 0, Nat.zero_le _, Nat.zero_le _, rfl, rfl, P2.out, L2.out⟩
  case round =>
    clear P2 L2
    obtain ⟨k, g, m, cap, hk, hm, rfl, rfl, HO, HL⟩ := hrel
    by_cases hlt : k < nh
    · obtain ⟨b, off, hA, hbB, hcs⟩ := HH.out.2 (by omega)
      obtain ⟨rfl, rfl⟩ : b1 = b ∧ o1 = off := by simp at hA; exact hA
      clear hA
      have hkl : k < H.length := by rw [HH.out.1]; exact hlt
      have e0 : wr.cell? ⟨b1, o1 + k, none⟩ = some (.string H[k]) := ((L1.out.trans (HL.out.mono L1.out.size)).cell (p := ⟨b1, o1 + k, none⟩) hbB).trans (hcs k hkl)
      clear hcs
      have HT := Lib.hid (gl_take H l k hkl)
      generalize H[k] = y at *
      have hmm : Hid (m ≤ 1100000000000) := show _ ≤ _ from Nat.le_trans hm (Nat.le_trans (Nat.mul_le_mul (show k ≤ 1048576 by omega) hn) (by decide))
      have lg : Hid (w1.heap.size ≤ g ∧ g < wr.heap.size) := HO.out.lt g rfl
      have M2 := Lib.hid (M1.out.below HL.out M1.out.lt)
      have HX : Hid (KeyT.KQ (qv ⟨y, 1⟩)) := ⟨⟨y, 1⟩, rfl⟩
      by_cases hin : (⟨y, 1⟩ : Key) ∈ uq (kl l)
      · obtain ⟨j, e, hj, hk'⟩ : ∃ (j : Nat) (e : Ge), es[j]? = some e ∧ e.q = ⟨y, 1⟩ := by
          rw [← HQ.out] at hin
          obtain ⟨e, he, hq⟩ := List.mem_map.1 hin
          obtain ⟨j, hj⟩ := List.getElem?_of_mem he
          exact ⟨j, e, hj, hq⟩
        have HE : Hid (sq e.q l = sf y 1 l) := show _ = _ by rw [hk']; rfl
        have hem : e.m ≤ n := by
          have h1 := (R1.out j e hj).1
          have h2 := sf_len e.q.name e.q.ty l
          have h3 : (sq e.q l).length ≤ l.length := h2
          have := HN.out
          omega
        have LK : Hid ((Instr.lookup 48 (.map (some bm)) (.agg #[.string y, .int .i64 1]) false).run Try.prog wr = .ok (.slice (some ⟨e.g, 0, none⟩) e.m e.cap) wr) := M2.out.in KT Try.underlying48 HS'.out HND.out HX.out (show (qv ⟨y, 1⟩, sv e) ∈ ev es from by rw [← hk']; exact List.mem_of_getElem? (ev_at hj)) false
        have SR : Hid (Sr wr w1.heap.size (some ⟨e.g, 0, none⟩) e.m (sf y 1 l)) := by
          have := (R1.out j e hj).2
          rw [HE.out] at this
          exact this.below HL.out
        clear hin hj hk' HX M2
        go_wp2_with (first | (at_lookup; refine wp_look rfl _ _ false rfl (.agg #[.string y, .int .i64 1]) (.slice (some ⟨e.g, 0, none⟩) e.m e.cap) rfl rfl LK.out ?_) | (at_builtin; refine append_wide rfl (.tmp 19) (.tmp 23) rfl w1.heap.size g m cap (gl (H.take k) l) rfl HO.out e.g 0 e.m e.cap _ (sf y 1 l) rfl SR.out (by have := hmm.out; omega) HL.out.size ?_))
        intro g' cap' w3 hown hgrow
        have O3 := Lib.hid hown
        have L3 := Lib.hid (HL.out.grown hgrow HL.out.size (fun j hj => by cases hj; exact lg.out.1))
        clear hown hgrow
        go_wp2
        go_roundw
        case rel => exact ⟨k + 1, g', m + e.m, cap', by omega, by rw [Nat.add_mul, Nat.one_mul]; omega, by go_num, rfl, by rw [HT.out]; exact O3.out, L3.out⟩
        case measure => simp [intOf]; omega
      · have HE : Hid (sf y 1 l = []) := sq_none (q := ⟨y, 1⟩) (fun h => hin (mem_uq.2 h))
        have LK : Hid ((Instr.lookup 48 (.map (some bm)) (.agg #[.string y, .int .i64 1]) false).run Try.prog wr = .ok (.slice none 0 0) wr) := M2.out.out KT Try.underlying48 (zero _) HS'.out HX.out (ev_out (by rw [HQ.out]; exact hin)) false
        clear hin HX M2
        go_wp2_with (at_lookup; refine wp_look rfl _ _ false rfl (.agg #[.string y, .int .i64 1]) (.slice none 0 0) rfl rfl LK.out ?_; refine wpList_append_own_none rfl (.tmp 19) (.tmp 23) 24 rfl w1.heap.size 56 i0 6 Try.underlying24 hi _ m (fl (gl (H.take k) l)) rfl HO.out rfl ?_)
        go_wp2
        go_roundw
        case rel => exact ⟨k + 1, g, m, cap, by omega, by rw [Nat.add_mul, Nat.one_mul]; omega, by go_num, rfl, by rw [HT.out, HE.out, List.append_nil]; exact HO.out, HL.out⟩
        case measure => simp [intOf]; omega
    · obtain rfl : nh = k := by omega
      have HN := Lib.hid (take_all HH.out.1)
      go_wp2
      go_ret
      have ho := HO.out
      rw [HN.out] at ho
      obtain ⟨r', hb, _, hcap, hg⟩ := bk_of_owns6 ho
      have hz : (gl H l).length = m := by have := ho.1; rw [fl_len] at this; omega
      exact ⟨g, m, cap, r', rfl, hz, hcap, Nat.le_trans L1.out.size hg, hb, L1.out.trans (HL.out.mono L1.out.size)⟩

end Go.Proofs.Ytjgmocmaeadjdaa.GlueI

/- What each kind of reply holds, in the program: refusal, referral, aliasReply, setReply, noDataReply, noNameReply. Condition: at most 1048576 records, no name of more than 400000000 bytes. -/
namespace Go.Proofs.Ytjgmocmaeadjdaa.ConI
open Go.RowKit Go.Proofs.Ytjgmocmaeadjdaa.Mem Go.Proofs.Ytjgmocmaeadjdaa.MemR Go.Proofs.Ytjgmocmaeadjdaa.SetMath Go.Proofs.Ytjgmocmaeadjdaa.NameMath Go.Proofs.Ytjgmocmaeadjdaa.ZoneMath Go.Proofs.Ytjgmocmaeadjdaa.ServeMath Go.Proofs.Ytjgmocmaeadjdaa.MemZ Go.Proofs.Ytjgmocmaeadjdaa.MemM Go.Proofs.Ytjgmocmaeadjdaa.Wt Go.Proofs.Ytjgmocmaeadjdaa.AppS Go.Proofs.Ytjgmocmaeadjdaa.MemS Go.Proofs.Ytjgmocmaeadjdaa.KindS Go.Proofs.Ytjgmocmaeadjdaa.CutOfS Go.Proofs.Ytjgmocmaeadjdaa.ResC

/-- The boxes of a zone, a question and a content. -/
theorem three (w : World) (s nm : ByteArray) (ty : Int) (x : Value) (t u v : TypeId) (d : Int) (a : Bool) : (Zx (((w.alloc (.cells #[.string s, x] t)).alloc (.cells #[.string nm, .int .i64 ty] u)).alloc (.cells #[.int .i64 d, .bool a, .slice none 0 0, .slice none 0 0, .slice none 0 0] v)) w.heap.size s x ∧ Qx (((w.alloc (.cells #[.string s, x] t)).alloc (.cells #[.string nm, .int .i64 ty] u)).alloc (.cells #[.int .i64 d, .bool a, .slice none 0 0, .slice none 0 0, .slice none 0 0] v)) (w.heap.size + 1) nm ty) ∧ Bk (((w.alloc (.cells #[.string s, x] t)).alloc (.cells #[.string nm, .int .i64 ty] u)).alloc (.cells #[.int .i64 d, .bool a, .slice none 0 0, .slice none 0 0, .slice none 0 0] v)) (w.heap.size + 1 + 1) v (cc d a (.slice none 0 0) (.slice none 0 0) (.slice none 0 0)) ∧ Below w.heap.size w (((w.alloc (.cells #[.string s, x] t)).alloc (.cells #[.string nm, .int .i64 ty] u)).alloc (.cells #[.int .i64 d, .bool a, .slice none 0 0, .slice none 0 0, .slice none 0 0] v)) := by
  obtain ⟨⟨h1, h2⟩, h3⟩ := two w s nm ty x t u
  have al : Below ((w.alloc (.cells #[.string s, x] t)).alloc (.cells #[.string nm, .int .i64 ty] u)).heap.size ((w.alloc (.cells #[.string s, x] t)).alloc (.cells #[.string nm, .int .i64 ty] u)) (((w.alloc (.cells #[.string s, x] t)).alloc (.cells #[.string nm, .int .i64 ty] u)).alloc (.cells #[.int .i64 d, .bool a, .slice none 0 0, .slice none 0 0, .slice none 0 0] v)) := (Below.refl _ _).alloc (Nat.le_refl _) _
  refine ⟨⟨h1.below al, h2.below al⟩, ?_, h3.trans (al.mono h3.size)⟩
  have := heap_alloc_new ((w.alloc (.cells #[.string s, x] t)).alloc (.cells #[.string nm, .int .i64 ty] u)) (.cells #[.int .i64 d, .bool a, .slice none 0 0, .slice none 0 0, .slice none 0 0] v)
  rw [show ((w.alloc (.cells #[.string s, x] t)).alloc (.cells #[.string nm, .int .i64 ty] u)).heap.size = w.heap.size + 1 + 1 by simp] at this
  exact this

set_option maxRecDepth 100000 in
set_option maxHeartbeats 8000000 in
theorem refusal (s nm : ByteArray) (ty : Int) (b0 o0 n c : Nat) (w : World) :
    Calls Try.prog 54 #[.agg #[.string s, .slice (some ⟨b0, o0, none⟩) n c], .agg #[.string nm, .int .i64 ty]] w (GivesK w 5 false [] [] []) := by
  obtain ⟨-, hb0, hl0⟩ := three w s nm ty (.slice (some ⟨b0, o0, none⟩) n c) 26 28 58 5 false
  have R0 := Lib.hid hb0
  have L0 := Lib.hid hl0
  clear hb0 hl0
  go_enter Try.func54, Try.ntmps54
  go_wp2
  exact bodyPost_ret (v := .agg #[.int .i64 5, .bool false, .slice none 0 0, .slice none 0 0, .slice none 0 0]) (res1C rfl R0.out rfl) rfl ⟨_, _, _, _, _, _, _, _, _, rfl, Sec.nil, Sec.nil, Sec.nil, L0.out⟩

set_option maxRecDepth 100000 in
set_option maxHeartbeats 8000000 in
theorem aliasReply (s nm : ByteArray) (ty : Int) (b0 o0 n c : Nat) (l : List Rec) (w : World) (hs : Sr w w.heap.size (some ⟨b0, o0, none⟩) n l) (hn : n ≤ 1048576) :
    Calls Try.prog 56 #[.agg #[.string s, .slice (some ⟨b0, o0, none⟩) n c], .agg #[.string nm, .int .i64 ty]] w (GivesK w 0 true (sf nm 5 l) [] []) := by
  obtain ⟨⟨hx, hy⟩, hb0, hl0⟩ := three w s nm ty (.slice (some ⟨b0, o0, none⟩) n c) 26 28 58 0 false
  have X0 := Lib.hid hx
  have Y0 := Lib.hid hy
  have R0 := Lib.hid hb0
  have L0 := Lib.hid hl0
  have S0 := Lib.hid (hs.on hl0)
  have TS := Lib.hid (fun W hW => SetI.impl nm 5 b0 o0 n c l W hW (by omega))
  clear hs hx hy hb0 hl0
  obtain ⟨x0, x1⟩ := X0.out
  obtain ⟨y0, y1⟩ := Y0.out
  go_enter Try.func56, Try.ntmps56
  go_wp2_with fail
  refine (TS.out _ S0.out).mono ?_
  rintro e w1 ⟨g, m, cp, r, rfl, hm1, hc1, hg1, hb1, hl⟩
  have R1 := Lib.hid (R0.out.below hl R0.out.lt)
  have L1 := Lib.hid (L0.out.trans (hl.mono L0.out.size))
  have GE : Hid (w.heap.size + 1 + 1 < g) := Nat.lt_of_lt_of_le R0.out.lt hg1
  have F := Lib.hid (filC_bk R1.out 0 true (.slice (some ⟨g, 0, none⟩) m cp) (.slice none 0 0) (.slice none 0 0))
  have E := Lib.hid (filC_below L1.out (g := w.heap.size + 1 + 1) (by omega) 0 true (.slice (some ⟨g, 0, none⟩) m cp) (.slice none 0 0) (.slice none 0 0))
  have Q1 : Hid (Sec (w.heap.size + 1 + 1 + 1) w1 (some ⟨g, 0, none⟩) m cp (sf nm 5 l)) := .inr ⟨g, r, rfl, hm1, hc1, GE.out, hb1⟩
  clear hl hm1 hc1 hg1 hb1 X0 Y0 R0 L0 S0 TS x0 x1 y0 y1
  have r0 := R1.out.cell 0
  have f0 := R1.out.free 0
  have r1 := R1.out.cell 1
  have f1 := R1.out.free 1
  have r2 := R1.out.cell 2
  have f2 := R1.out.free 2
  have r3 := R1.out.cell 3
  have f3 := R1.out.free 3
  have r4 := R1.out.cell 4
  have f4 := R1.out.free 4
  simp only [cc, List.getElem?_cons_zero, List.getElem?_cons_succ] at r0 r1 r2 r3 r4
  go_wp2
  exact bodyPost_ret (v := .agg #[.int .i64 0, .bool true, .slice (some ⟨g, 0, none⟩) m cp, .slice none 0 0, .slice none 0 0]) (res1C rfl F.out rfl) rfl ⟨_, _, _, _, _, _, _, _, _, rfl, (Q1.out.fil (by omega) _ _ _ _ _).low (by omega), Sec.nil, Sec.nil, E.out⟩

set_option maxRecDepth 100000 in
set_option maxHeartbeats 8000000 in
theorem setReply (s nm : ByteArray) (ty : Int) (b0 o0 n c : Nat) (l : List Rec) (w : World) (hs : Sr w w.heap.size (some ⟨b0, o0, none⟩) n l) (hn : n ≤ 1048576) :
    Calls Try.prog 57 #[.agg #[.string s, .slice (some ⟨b0, o0, none⟩) n c], .agg #[.string nm, .int .i64 ty]] w (GivesK w 0 true (sf nm ty l) [] []) := by
  obtain ⟨⟨hx, hy⟩, hb0, hl0⟩ := three w s nm ty (.slice (some ⟨b0, o0, none⟩) n c) 26 28 58 0 false
  have X0 := Lib.hid hx
  have Y0 := Lib.hid hy
  have R0 := Lib.hid hb0
  have L0 := Lib.hid hl0
  have S0 := Lib.hid (hs.on hl0)
  have TS := Lib.hid (fun W hW => SetI.impl nm ty b0 o0 n c l W hW (by omega))
  clear hs hx hy hb0 hl0
  obtain ⟨x0, x1⟩ := X0.out
  obtain ⟨y0, y1⟩ := Y0.out
  go_enter Try.func57, Try.ntmps57
  go_wp2_with fail
  refine (TS.out _ S0.out).mono ?_
  rintro e w1 ⟨g, m, cp, r, rfl, hm1, hc1, hg1, hb1, hl⟩
  have R1 := Lib.hid (R0.out.below hl R0.out.lt)
  have L1 := Lib.hid (L0.out.trans (hl.mono L0.out.size))
  have GE : Hid (w.heap.size + 1 + 1 < g) := Nat.lt_of_lt_of_le R0.out.lt hg1
  have F := Lib.hid (filC_bk R1.out 0 true (.slice (some ⟨g, 0, none⟩) m cp) (.slice none 0 0) (.slice none 0 0))
  have E := Lib.hid (filC_below L1.out (g := w.heap.size + 1 + 1) (by omega) 0 true (.slice (some ⟨g, 0, none⟩) m cp) (.slice none 0 0) (.slice none 0 0))
  have Q1 : Hid (Sec (w.heap.size + 1 + 1 + 1) w1 (some ⟨g, 0, none⟩) m cp (sf nm ty l)) := .inr ⟨g, r, rfl, hm1, hc1, GE.out, hb1⟩
  clear hl hm1 hc1 hg1 hb1 X0 Y0 R0 L0 S0 TS x0 x1 y0 y1
  have r0 := R1.out.cell 0
  have f0 := R1.out.free 0
  have r1 := R1.out.cell 1
  have f1 := R1.out.free 1
  have r2 := R1.out.cell 2
  have f2 := R1.out.free 2
  have r3 := R1.out.cell 3
  have f3 := R1.out.free 3
  have r4 := R1.out.cell 4
  have f4 := R1.out.free 4
  simp only [cc, List.getElem?_cons_zero, List.getElem?_cons_succ] at r0 r1 r2 r3 r4
  go_wp2
  exact bodyPost_ret (v := .agg #[.int .i64 0, .bool true, .slice (some ⟨g, 0, none⟩) m cp, .slice none 0 0, .slice none 0 0]) (res1C rfl F.out rfl) rfl ⟨_, _, _, _, _, _, _, _, _, rfl, (Q1.out.fil (by omega) _ _ _ _ _).low (by omega), Sec.nil, Sec.nil, E.out⟩

set_option maxRecDepth 100000 in
set_option maxHeartbeats 8000000 in
theorem noDataReply (s nm : ByteArray) (ty : Int) (b0 o0 n c : Nat) (l : List Rec) (w : World) (hs : Sr w w.heap.size (some ⟨b0, o0, none⟩) n l) (hn : n ≤ 1048576) (hm : s.size ≤ 400000000) (hz : ∀ r ∈ l, r.name.size ≤ 400000000) :
    Calls Try.prog 58 #[.agg #[.string s, .slice (some ⟨b0, o0, none⟩) n c], .agg #[.string nm, .int .i64 ty]] w (GivesK w 0 true [] [st l] []) := by
  obtain ⟨⟨hx, hy⟩, hb0, hl0⟩ := three w s nm ty (.slice (some ⟨b0, o0, none⟩) n c) 26 28 58 0 false
  have X0 := Lib.hid hx
  have Y0 := Lib.hid hy
  have R0 := Lib.hid hb0
  have L0 := Lib.hid hl0
  have S0 := Lib.hid (hs.on hl0)
  have TS := Lib.hid (fun W hW => StartOfI.impl s b0 o0 n c l W hW (by omega) hm hz)
  clear hz
  have HQ : Hid (∃ q, st l = q) := ⟨_, rfl⟩
  obtain ⟨q, hq0⟩ := HQ.out
  rw [hq0] at TS
  have HQ1 := Lib.hid hq0
  clear HQ hq0
  clear hs hx hy hb0 hl0
  obtain ⟨x0, x1⟩ := X0.out
  obtain ⟨y0, y1⟩ := Y0.out
  go_enter Try.func58, Try.ntmps58
  go_wp2_with fail
  refine (TS.out _ S0.out).mono ?_
  rintro e w1 ⟨rfl, hl⟩
  have al : Below w1.heap.size w1 (w1.alloc (.cells #[.string q.name, .int .i64 q.ty, .int .i64 q.ttl, .int .i64 q.n, .string q.host, .string q.text] 56)) := (Below.refl _ _).alloc (Nat.le_refl _) _
  have R1 := Lib.hid ((R0.out.below hl R0.out.lt).below al (R0.out.below hl R0.out.lt).lt)
  have L1 := Lib.hid (L0.out.trans (hl.mono L0.out.size))
  have L2 := Lib.hid (L1.out.trans (al.mono L1.out.size))
  have N2 : Hid (Bk (w1.alloc (.cells #[.string q.name, .int .i64 q.ty, .int .i64 q.ttl, .int .i64 q.n, .string q.host, .string q.text] 56)) w1.heap.size 56 (fl [q] ++ [])) := heap_alloc_new w1 (.cells #[.string q.name, .int .i64 q.ty, .int .i64 q.ttl, .int .i64 q.n, .string q.host, .string q.text] 56)
  have GE : Hid (w.heap.size + 1 + 1 < w1.heap.size) := (R0.out.below hl R0.out.lt).lt
  have F := Lib.hid (filC_bk R1.out 0 true (.slice none 0 0) (.slice (some ⟨w1.heap.size, 0, none⟩) 1 1) (.slice none 0 0))
  have E := Lib.hid (filC_below L2.out (g := w.heap.size + 1 + 1) (by omega) 0 true (.slice none 0 0) (.slice (some ⟨w1.heap.size, 0, none⟩) 1 1) (.slice none 0 0))
  have Q1 : Hid (Sec (w.heap.size + 1 + 1 + 1) (w1.alloc (.cells #[.string q.name, .int .i64 q.ty, .int .i64 q.ttl, .int .i64 q.n, .string q.host, .string q.text] 56)) (some ⟨w1.heap.size, 0, none⟩) 1 1 [q]) := .inr ⟨w1.heap.size, [], rfl, rfl, Nat.le_refl _, GE.out, N2.out⟩
  clear hl al X0 Y0 R0 L0 S0 TS x0 x1 y0 y1
  have r0 := R1.out.cell 0
  have f0 := R1.out.free 0
  have r1 := R1.out.cell 1
  have f1 := R1.out.free 1
  have r2 := R1.out.cell 2
  have f2 := R1.out.free 2
  have r3 := R1.out.cell 3
  have f3 := R1.out.free 3
  have r4 := R1.out.cell 4
  have f4 := R1.out.free 4
  simp only [cc, List.getElem?_cons_zero, List.getElem?_cons_succ] at r0 r1 r2 r3 r4
  go_wp2
  exact bodyPost_ret (v := .agg #[.int .i64 0, .bool true, .slice none 0 0, .slice (some ⟨w1.heap.size, 0, none⟩) 1 1, .slice none 0 0]) (res1C rfl F.out rfl) rfl ⟨_, _, _, _, _, _, _, _, _, rfl, Sec.nil, by rw [HQ1.out]; exact (Q1.out.fil (by omega) _ _ _ _ _).low (by omega), Sec.nil, E.out⟩

set_option maxRecDepth 100000 in
set_option maxHeartbeats 8000000 in
theorem noNameReply (s nm : ByteArray) (ty : Int) (b0 o0 n c : Nat) (l : List Rec) (w : World) (hs : Sr w w.heap.size (some ⟨b0, o0, none⟩) n l) (hn : n ≤ 1048576) (hm : s.size ≤ 400000000) (hz : ∀ r ∈ l, r.name.size ≤ 400000000) :
    Calls Try.prog 59 #[.agg #[.string s, .slice (some ⟨b0, o0, none⟩) n c], .agg #[.string nm, .int .i64 ty]] w (GivesK w 3 true [] [st l] []) := by
  obtain ⟨⟨hx, hy⟩, hb0, hl0⟩ := three w s nm ty (.slice (some ⟨b0, o0, none⟩) n c) 26 28 58 0 false
  have X0 := Lib.hid hx
  have Y0 := Lib.hid hy
  have R0 := Lib.hid hb0
  have L0 := Lib.hid hl0
  have S0 := Lib.hid (hs.on hl0)
  have TS := Lib.hid (fun W hW => StartOfI.impl s b0 o0 n c l W hW (by omega) hm hz)
  clear hz
  have HQ : Hid (∃ q, st l = q) := ⟨_, rfl⟩
  obtain ⟨q, hq0⟩ := HQ.out
  rw [hq0] at TS
  have HQ1 := Lib.hid hq0
  clear HQ hq0
  clear hs hx hy hb0 hl0
  obtain ⟨x0, x1⟩ := X0.out
  obtain ⟨y0, y1⟩ := Y0.out
  go_enter Try.func59, Try.ntmps59
  go_wp2_with fail
  refine (TS.out _ S0.out).mono ?_
  rintro e w1 ⟨rfl, hl⟩
  have al : Below w1.heap.size w1 (w1.alloc (.cells #[.string q.name, .int .i64 q.ty, .int .i64 q.ttl, .int .i64 q.n, .string q.host, .string q.text] 56)) := (Below.refl _ _).alloc (Nat.le_refl _) _
  have R1 := Lib.hid ((R0.out.below hl R0.out.lt).below al (R0.out.below hl R0.out.lt).lt)
  have L1 := Lib.hid (L0.out.trans (hl.mono L0.out.size))
  have L2 := Lib.hid (L1.out.trans (al.mono L1.out.size))
  have N2 : Hid (Bk (w1.alloc (.cells #[.string q.name, .int .i64 q.ty, .int .i64 q.ttl, .int .i64 q.n, .string q.host, .string q.text] 56)) w1.heap.size 56 (fl [q] ++ [])) := heap_alloc_new w1 (.cells #[.string q.name, .int .i64 q.ty, .int .i64 q.ttl, .int .i64 q.n, .string q.host, .string q.text] 56)
  have GE : Hid (w.heap.size + 1 + 1 < w1.heap.size) := (R0.out.below hl R0.out.lt).lt
  have F := Lib.hid (filC_bk R1.out 3 true (.slice none 0 0) (.slice (some ⟨w1.heap.size, 0, none⟩) 1 1) (.slice none 0 0))
  have E := Lib.hid (filC_below L2.out (g := w.heap.size + 1 + 1) (by omega) 3 true (.slice none 0 0) (.slice (some ⟨w1.heap.size, 0, none⟩) 1 1) (.slice none 0 0))
  have Q1 : Hid (Sec (w.heap.size + 1 + 1 + 1) (w1.alloc (.cells #[.string q.name, .int .i64 q.ty, .int .i64 q.ttl, .int .i64 q.n, .string q.host, .string q.text] 56)) (some ⟨w1.heap.size, 0, none⟩) 1 1 [q]) := .inr ⟨w1.heap.size, [], rfl, rfl, Nat.le_refl _, GE.out, N2.out⟩
  clear hl al X0 Y0 R0 L0 S0 TS x0 x1 y0 y1
  have r0 := R1.out.cell 0
  have f0 := R1.out.free 0
  have r1 := R1.out.cell 1
  have f1 := R1.out.free 1
  have r2 := R1.out.cell 2
  have f2 := R1.out.free 2
  have r3 := R1.out.cell 3
  have f3 := R1.out.free 3
  have r4 := R1.out.cell 4
  have f4 := R1.out.free 4
  simp only [cc, List.getElem?_cons_zero, List.getElem?_cons_succ] at r0 r1 r2 r3 r4
  go_wp2
  exact bodyPost_ret (v := .agg #[.int .i64 3, .bool true, .slice none 0 0, .slice (some ⟨w1.heap.size, 0, none⟩) 1 1, .slice none 0 0]) (res1C rfl F.out rfl) rfl ⟨_, _, _, _, _, _, _, _, _, rfl, Sec.nil, by rw [HQ1.out]; exact (Q1.out.fil (by omega) _ _ _ _ _).low (by omega), Sec.nil, E.out⟩

end Go.Proofs.Ytjgmocmaeadjdaa.ConI

/- What referral does in the program: the servers of the cut, and their addresses in the zone. Condition: at most 1048576 records, no name of more than 400000000 bytes. -/
namespace Go.Proofs.Ytjgmocmaeadjdaa.RefI
open Go.RowKit Go.Proofs.Ytjgmocmaeadjdaa.Mem Go.Proofs.Ytjgmocmaeadjdaa.MemR Go.Proofs.Ytjgmocmaeadjdaa.SetMath Go.Proofs.Ytjgmocmaeadjdaa.NameMath Go.Proofs.Ytjgmocmaeadjdaa.ZoneMath Go.Proofs.Ytjgmocmaeadjdaa.ServeMath Go.Proofs.Ytjgmocmaeadjdaa.MemZ Go.Proofs.Ytjgmocmaeadjdaa.MemM Go.Proofs.Ytjgmocmaeadjdaa.Wt Go.Proofs.Ytjgmocmaeadjdaa.AppS Go.Proofs.Ytjgmocmaeadjdaa.MemS Go.Proofs.Ytjgmocmaeadjdaa.KindS Go.Proofs.Ytjgmocmaeadjdaa.CutOfS Go.Proofs.Ytjgmocmaeadjdaa.ResC Go.Proofs.Ytjgmocmaeadjdaa.ConI

/-- The box g holds a content. A def, so that no step of a walk opens it. -/
def RC (w : World) (g : Nat) : Prop := ∃ cs : List Value, cs.length = 5 ∧ Bk w g 58 cs

/-- What a cell of the box holds. -/
def cl (w : World) (g j : Nat) : Value := (w.cell? ⟨g, j, none⟩).getD undef

theorem RC.below {w w' : World} {g : Nat} (k : RC w g) (hb : Below w.heap.size w w') : RC w' g := by
  obtain ⟨cs, hc, k⟩ := k
  exact ⟨cs, hc, k.below hb k.lt⟩

theorem RC.lt {w : World} {g : Nat} (k : RC w g) : g < w.heap.size := by
  obtain ⟨cs, hc, k⟩ := k
  exact k.lt

theorem RC.cell {w : World} {g : Nat} (k : RC w g) (j : Nat) (hj : j < 5) : w.cell? ⟨g, j, none⟩ = some (cl w g j) := by
  obtain ⟨cs, hc, k⟩ := k
  unfold cl
  rw [k.cell, List.getElem?_eq_getElem (show j < cs.length by omega)]
  rfl

theorem RC.free {w : World} {g : Nat} (k : RC w g) (j : Nat) : w.frozen? ⟨g, j, none⟩ = false := by
  obtain ⟨cs, hc, k⟩ := k
  exact k.free j

theorem RC.put {w : World} {g : Nat} (k : RC w g) (j : Nat) (v : Value) : RC (w.setCell ⟨g, j, none⟩ v) g := by
  obtain ⟨cs, hc, k⟩ := k
  exact ⟨cs.set j v, by rw [List.length_set]; exact hc, k.set j v⟩

theorem RC.fil {w : World} {g : Nat} (k : RC w g) (d : Int) (a : Bool) (x y z : Value) : Bk (filC w g d a x y z) g 58 (cc d a x y z) := by
  obtain ⟨cs, hc, k⟩ := k
  match cs, hc with
  | [a0, a1, a2, a3, a4], _ => exact (((((k.set 0 (.int .i64 d)).set 1 (.bool a)).set 2 x).set 3 y).set 4 z)

section
variable {w0 w w1 w' : World} {g k j : Nat} {s : ByteArray} {x : Value} {t : TypeId} {cs : List Value}

theorem keptC (m : ((w.cell? ⟨g, 0, none⟩ = some (.string s) ∧ w.cell? ⟨g, 1, none⟩ = some x) ∧ RC w k ∧ Bk w j t cs) ∧ Svz w0 w) (hl : Below w.heap.size w w') : ((w'.cell? ⟨g, 0, none⟩ = some (.string s) ∧ w'.cell? ⟨g, 1, none⟩ = some x) ∧ RC w' k ∧ Bk w' j t cs) ∧ Svz w0 w' :=
  ⟨⟨Zx.below m.1.1 hl, m.1.2.1.below hl, m.1.2.2.below hl m.1.2.2.lt⟩, m.2.trans (hl.mono m.2.size)⟩

theorem keptC_draw (m : ((w.cell? ⟨g, 0, none⟩ = some (.string s) ∧ w.cell? ⟨g, 1, none⟩ = some x) ∧ RC w k ∧ Bk w j t cs) ∧ Svz w0 w) : ((w.drew.cell? ⟨g, 0, none⟩ = some (.string s) ∧ w.drew.cell? ⟨g, 1, none⟩ = some x) ∧ RC w.drew k ∧ Bk w.drew j t cs) ∧ Svz w0 w.drew := keptC m ((Below.refl _ _).drew)

theorem keptC_put (m : ((w.cell? ⟨g, 0, none⟩ = some (.string s) ∧ w.cell? ⟨g, 1, none⟩ = some x) ∧ RC w k ∧ Bk w j t cs) ∧ Svz w0 w) (h1 : g ≠ k) (h2 : j ≠ k) (h3 : w0.heap.size ≤ k) (i : Nat) (v : Value) : (((w.setCell ⟨k, i, none⟩ v).cell? ⟨g, 0, none⟩ = some (.string s) ∧ (w.setCell ⟨k, i, none⟩ v).cell? ⟨g, 1, none⟩ = some x) ∧ RC (w.setCell ⟨k, i, none⟩ v) k ∧ Bk (w.setCell ⟨k, i, none⟩ v) j t cs) ∧ Svz w0 (w.setCell ⟨k, i, none⟩ v) :=
  ⟨⟨Zx.set1 m.1.1 (p := ⟨k, i, none⟩) h1 v, m.1.2.1.put i v, m.1.2.2.other (p := ⟨k, i, none⟩) h2 v⟩, Below.setCell m.2 (p := ⟨k, i, none⟩) h3 v⟩

theorem keptC_fil (m : ((w1.cell? ⟨g, 0, none⟩ = some (.string s) ∧ w1.cell? ⟨g, 1, none⟩ = some x) ∧ RC w1 k ∧ Bk w1 j t cs) ∧ Svz w0 w1) (h1 : g ≠ k) (h2 : j ≠ k) (h3 : w0.heap.size ≤ k) (v0 v1 v2 v3 v4 : Value) : (((((((w1.setCell ⟨k, 0, none⟩ v0).setCell ⟨k, 1, none⟩ v1).setCell ⟨k, 2, none⟩ v2).setCell ⟨k, 3, none⟩ v3).setCell ⟨k, 4, none⟩ v4).cell? ⟨g, 0, none⟩ = some (.string s) ∧ (((((w1.setCell ⟨k, 0, none⟩ v0).setCell ⟨k, 1, none⟩ v1).setCell ⟨k, 2, none⟩ v2).setCell ⟨k, 3, none⟩ v3).setCell ⟨k, 4, none⟩ v4).cell? ⟨g, 1, none⟩ = some x) ∧ RC (((((w1.setCell ⟨k, 0, none⟩ v0).setCell ⟨k, 1, none⟩ v1).setCell ⟨k, 2, none⟩ v2).setCell ⟨k, 3, none⟩ v3).setCell ⟨k, 4, none⟩ v4) k ∧ Bk (((((w1.setCell ⟨k, 0, none⟩ v0).setCell ⟨k, 1, none⟩ v1).setCell ⟨k, 2, none⟩ v2).setCell ⟨k, 3, none⟩ v3).setCell ⟨k, 4, none⟩ v4) j t cs) ∧ Svz w0 (((((w1.setCell ⟨k, 0, none⟩ v0).setCell ⟨k, 1, none⟩ v1).setCell ⟨k, 2, none⟩ v2).setCell ⟨k, 3, none⟩ v3).setCell ⟨k, 4, none⟩ v4) :=
  keptC_put (keptC_put (keptC_put (keptC_put (keptC_put m h1 h2 h3 0 v0) h1 h2 h3 1 v1) h1 h2 h3 2 v2) h1 h2 h3 3 v3) h1 h2 h3 4 v4
end

set_option maxRecDepth 100000 in
set_option maxHeartbeats 4000000 in
theorem referral (s nm : ByteArray) (ty : Int) (b0 o0 n c : Nat) (l : List Rec) (w : World) (hs : Sr w w.heap.size (some ⟨b0, o0, none⟩) n l) (hn : n ≤ 1048576) (hm : s.size ≤ 400000000) (hq : nm.size ≤ 400000000) (hz : ∀ r ∈ l, r.name.size ≤ 400000000) :
    Calls Try.prog 55 #[.agg #[.string s, .slice (some ⟨b0, o0, none⟩) n c], .agg #[.string nm, .int .i64 ty]] w (GivesK w 0 false [] (sf (cu s nm l) 2 l) (gl (uq (hl (sf (cu s nm l) 2 l))) l)) := by
  obtain ⟨⟨hx, hy⟩, hb0, hl0⟩ := three w s nm ty (.slice (some ⟨b0, o0, none⟩) n c) 26 28 58 0 false
  have X0 := Lib.hid hx
  have Y0 := Lib.hid hy
  have R0 := Lib.hid hb0
  have L0 := Lib.hid hl0
  have HS := Lib.hid hs
  have CS := Lib.hid (fun W hW => CutOfI.impl s nm b0 o0 n c l W hW (by omega) hm hq hz)
  have TS := Lib.hid (fun W hW => SetI.impl (cu s nm l) 2 b0 o0 n c l W hW (by omega))
  obtain ⟨b, hb⟩ := MorS.cu_cv s nm l
  rw [hb] at CS
  have LM : Hid ((sf (cu s nm l) 2 l).length ≤ 1048576) := show _ ≤ _ by have h1 := sf_len (cu s nm l) 2 l; have h2 := hs.1; omega
  clear hs hx hy hb0 hl0 hb hz
  generalize cu s nm l = u at *
  generalize sf u 2 l = lm at *
  have HHL : Hid ((uq (hl lm)).length ≤ 1048576) := show _ ≤ _ by have h1 := len_uq (hl lm); have h2 := hl_len lm; have := LM.out; omega
  have HH := Lib.hid (fun (b o m c : Nat) (W : World) (hW : Sr W W.heap.size (some ⟨b, o, none⟩) m lm) (hm : m ≤ 400000000) => HostI.impl b o m c lm W hW hm)
  generalize uq (hl lm) = H at *
  have GS := Lib.hid (fun (h m c' : Nat) (W : World) (hW : Sr W W.heap.size (some ⟨b0, o0, none⟩) n l) (hh : Ss W W.heap.size (some ⟨h, 0, none⟩) m H) (hm : m ≤ 1048576) => GlueI.impl s b0 o0 n c l h 0 m c' H W hW hh (by omega) hm)
  generalize gl H l = lg at *
  obtain ⟨x0, x1⟩ := X0.out
  obtain ⟨y0, y1⟩ := Y0.out
  go_enter Try.func55, Try.ntmps55
  go_wp2_with fail
  refine (CS.out _ (HS.out.on L0.out)).mono ?_
  rintro e w1 ⟨rfl, hl⟩
  have X1 := Lib.hid (X0.out.below hl)
  have R1 := Lib.hid (R0.out.below hl R0.out.lt)
  have L1 := Lib.hid (L0.out.trans (hl.mono L0.out.size))
  clear hl CS X0 Y0 R0 L0 x0 x1 y0 y1
  obtain ⟨x0, x1⟩ := X1.out
  go_wp2_with fail
  refine (TS.out _ (HS.out.on L1.out)).mono ?_
  rintro e w2 ⟨g, m, cp, r, rfl, hm2, hc2, hg2, hb2, hl⟩
  have M2 := Lib.hid hm2
  have C2 := Lib.hid hc2
  have B2 := Lib.hid hb2
  have NG : Hid (w.heap.size + 1 + 1 < g) := Nat.lt_of_lt_of_le R1.out.lt hg2
  have X2 := Lib.hid (X1.out.below hl)
  have R2 := Lib.hid (R1.out.below hl R1.out.lt)
  have L2 := Lib.hid (L1.out.trans (hl.mono L1.out.size))
  clear hl TS X1 R1 L1 x0 x1 hm2 hc2 hg2 hb2
  have hlm : m ≤ 1048576 := by have := LM.out; have := M2.out; omega
  have HHR : Hid (∀ W : World, ((W.cell? ⟨w.heap.size, 0, none⟩ = some (.string s) ∧ W.cell? ⟨w.heap.size, 1, none⟩ = some (.slice (some ⟨b0, o0, none⟩) n c)) ∧ RC W (w.heap.size + 1 + 1) ∧ Bk W g 56 (fl lm ++ r)) ∧ Svz w W → Calls Try.prog 75 #[.slice (some ⟨g, 0, none⟩) m cp] W (GivesS W H)) := fun W hW => HH.out g 0 m cp W (bk_sr hW.1.2.2 M2.out) (by omega)
  have GSR : Hid (∀ (W : World) (h m' c' : Nat) (r' : List Value), ((W.cell? ⟨w.heap.size, 0, none⟩ = some (.string s) ∧ W.cell? ⟨w.heap.size, 1, none⟩ = some (.slice (some ⟨b0, o0, none⟩) n c)) ∧ RC W (w.heap.size + 1 + 1) ∧ Bk W g 56 (fl lm ++ r)) ∧ Svz w W → Bk W h 9 (H.map tv ++ r') → H.length = m' → Calls Try.prog 74 #[.agg #[.string s, .slice (some ⟨b0, o0, none⟩) n c], .slice (some ⟨h, 0, none⟩) m' c'] W (GivesL W lg)) := fun W h m' c' r' hW hb hz => GS.out h m' c' W (HS.out.on hW.2) (bk_ssw hb hz) (by have := HHL.out; omega)
  have SS0 : ((w2.cell? ⟨w.heap.size, 0, none⟩ = some (.string s) ∧ w2.cell? ⟨w.heap.size, 1, none⟩ = some (.slice (some ⟨b0, o0, none⟩) n c)) ∧ RC w2 (w.heap.size + 1 + 1) ∧ Bk w2 g 56 (fl lm ++ r)) ∧ Svz w w2 := ⟨⟨X2.out, ⟨_, rfl, R2.out⟩, B2.out⟩, L2.out⟩
  have n1 : w.heap.size ≠ w.heap.size + 1 + 1 := by omega
  have n2 : g ≠ w.heap.size + 1 + 1 := by have := NG.out; omega
  have n3 : w.heap.size ≤ w.heap.size + 1 + 1 := by omega
  clear X2 HH GS
  go_wp2
  go_region_held3 (fun w' => ((w'.cell? ⟨w.heap.size, 0, none⟩ = some (.string s) ∧ w'.cell? ⟨w.heap.size, 1, none⟩ = some (.slice (some ⟨b0, o0, none⟩) n c)) ∧ RC w' (w.heap.size + 1 + 1) ∧ Bk w' g 56 (fl lm ++ r)) ∧ Svz w w')
    (first | with_reducible exact keptC_fil (w1 := w4) (by assumption) n1 n2 n3 _ _ _ _ _ | with_reducible exact SS0 | with_reducible assumption | with_reducible exact keptC (by assumption) hl | with_reducible exact keptC_draw (by assumption) | fail)
    (first
      | (go_at_call 75; (with_reducible refine (HHR.out _ (by assumption)).mono ?_); rintro e w3 ⟨g3, m3, c3, r3, rfl, hz3, hc3, hg3, hb3, hl⟩; have y1 := hl)
      | (go_at_call 74; (with_reducible refine (GSR.out _ _ _ _ _ (by assumption) hb3 hz3).mono ?_); rintro e w4 ⟨g4, m4, c4, r4, rfl, hz4, hc4, hg4, hb4, hl⟩; have y2 := hl; have HR := (keptC (by assumption) hl).1.2.1; have p0 := HR.cell 0 (by decide); have f0 := HR.free 0; have p1 := HR.cell 1 (by decide); have f1 := HR.free 1; have p2 := HR.cell 2 (by decide); have f2 := HR.free 2; have p3 := HR.cell 3 (by decide); have f3 := HR.free 3; have p4 := HR.cell 4 (by decide); have f4 := HR.free 4; clear HR)
      | fail)
  rename_i hH
  have a0 : Below w.heap.size w w2.drew := L2.out.drew
  have a1 := a0.trans (y1.mono a0.size)
  have a2 := a1.trans (y2.mono a1.size)
  have RA : RC w4 (w.heap.size + 1 + 1) := by
    have b0 : RC w2.drew (w.heap.size + 1 + 1) := ⟨_, rfl, R2.out⟩
    exact (b0.below y1).below y2
  have BA : Bk w4 g 56 (fl lm ++ r) := by
    have b0 : Bk w2.drew g 56 (fl lm ++ r) := B2.out
    have b1 := b0.below y1 b0.lt
    exact b1.below y2 b1.lt
  have F := Lib.hid (RA.fil 0 false (.slice none 0 0) (.slice (some ⟨g, 0, none⟩) m cp) (.slice (some ⟨g4, 0, none⟩) m4 c4))
  have E := Lib.hid (filC_below a2 (g := w.heap.size + 1 + 1) (by omega) 0 false (.slice none 0 0) (.slice (some ⟨g, 0, none⟩) m cp) (.slice (some ⟨g4, 0, none⟩) m4 c4))
  have G4 : w.heap.size + 1 + 1 < g4 := Nat.lt_of_lt_of_le (show w.heap.size + 1 + 1 < w3.heap.size from Nat.lt_of_lt_of_le (show w.heap.size + 1 + 1 < w2.drew.heap.size from R2.out.lt) y1.size) hg4
  have Q1 : Hid (Sec (w.heap.size + 1 + 1 + 1) w4 (some ⟨g, 0, none⟩) m cp lm) := .inr ⟨g, r, rfl, M2.out, C2.out, NG.out, BA⟩
  have Q2 : Hid (Sec (w.heap.size + 1 + 1 + 1) w4 (some ⟨g4, 0, none⟩) m4 c4 lg) := .inr ⟨g4, r4, rfl, hz4, hc4, G4, hb4⟩
  clear hH SS0 HHR GSR a0 a1 a2 RA BA R2 B2 L2 y1 y2 hl G4 hz3 hc3 hg3 hb3 hz4 hc4 hg4 hb4 p0 f0 p1 f1 p2 f2 p3 f3 p4 f4
  go_wp2
  exact bodyPost_ret (v := .agg #[.int .i64 0, .bool false, .slice none 0 0, .slice (some ⟨g, 0, none⟩) m cp, .slice (some ⟨g4, 0, none⟩) m4 c4]) (res1C rfl F.out rfl) rfl ⟨_, _, _, _, _, _, _, _, _, rfl, Sec.nil, (Q1.out.fil (by omega) _ _ _ _ _).low (by omega), (Q2.out.fil (by omega) _ _ _ _ _).low (by omega), E.out⟩

end Go.Proofs.Ytjgmocmaeadjdaa.RefI

/- What InZone does in the program: it tells whether the name is under the zone's apex and under none of its cuts. Condition: fewer than 400000001 records, no name of more than 400000000 bytes. -/
namespace Go.Proofs.Ytjgmocmaeadjdaa.InZoneI
open Go.RowKit Go.Proofs.Ytjgmocmaeadjdaa.Mem Go.Proofs.Ytjgmocmaeadjdaa.MemR Go.Proofs.Ytjgmocmaeadjdaa.SetMath Go.Proofs.Ytjgmocmaeadjdaa.NameMath Go.Proofs.Ytjgmocmaeadjdaa.ZoneMath Go.Proofs.Ytjgmocmaeadjdaa.MemZ Go.Proofs.Ytjgmocmaeadjdaa.CutOfS

set_option maxHeartbeats 4000000 in
theorem impl (s nm : ByteArray) (b0 o0 n c : Nat) (l : List Rec) (w : World) (hs : Sr w w.heap.size (some ⟨b0, o0, none⟩) n l) (hn : n ≤ 400000000) (hm : s.size ≤ 400000000) (hq : nm.size ≤ 400000000) (hz : ∀ r ∈ l, r.name.size ≤ 400000000) :
    Calls Try.prog 29 #[.agg #[.string s, .slice (some ⟨b0, o0, none⟩) n c], .string nm] w fun e w' => e = .returned (.bool (iz s nm l)) ∧ Below w.heap.size w w' := by
  have L0 := Lib.hid ((Below.refl w.heap.size w).alloc (Nat.le_refl _) (.cells #[.string s, .slice (some ⟨b0, o0, none⟩) n c] 26))
  have X0 := Lib.hid (zx_new w 26 s (.slice (some ⟨b0, o0, none⟩) n c))
  have CS := Lib.hid (fun W hW => CutOfI.impl s nm b0 o0 n c l W hW hn hm hq hz)
  have US := Lib.hid (fun W => UnderImpl.impl nm s W hq hm)
  have S0 := Lib.hid (hs.on L0.out)
  clear hs hz
  have HV : Hid (iz s nm l = (Un nm s && !(co nm (uq (cn s l))).isSome)) := rfl
  generalize iz s nm l = v at *
  generalize co nm (uq (cn s l)) = o at *
  generalize Un nm s = u at *
  obtain ⟨x0, x1⟩ := X0.out
  cases o with
  | none =>
    replace CS : Hid (∀ W, Sr W W.heap.size (some ⟨b0, o0, none⟩) n l → Calls Try.prog 51 #[.agg #[.string s, .slice (some ⟨b0, o0, none⟩) n c], .string nm] W fun e w' => e = .returned (.tuple #[.string ⟨#[]⟩, .bool false]) ∧ Below W.heap.size W w') := CS
    go_enter Try.func29, Try.ntmps29
    go_wp2_with fail
    refine (CS.out _ S0.out).mono ?_
    rintro e w1 ⟨rfl, hl⟩
    have X1 := Lib.hid (X0.out.below hl)
    have L1 := Lib.hid (L0.out.trans (hl.mono L0.out.size))
    clear hl CS S0 L0 X0 x0 x1
    obtain ⟨x0, x1⟩ := X1.out
    go_wp2_with fail
    refine (US.out _).mono ?_
    rintro e w2 ⟨rfl, rfl⟩
    have L2 := Lib.hid L1.out
    clear US x0 x1 X1
    have HF : Hid (v = u) := by show _ = _; rw [HV.out]; simp
    clear HV
    cases u with
    | true => go_wp2; go_ret; exact ⟨congrArg (fun b => Ending.returned (Value.bool b)) HF.out.symm, L2.out⟩
    | false => go_wp2; go_ret; exact ⟨congrArg (fun b => Ending.returned (Value.bool b)) HF.out.symm, L2.out⟩
  | some y =>
    replace CS : Hid (∀ W, Sr W W.heap.size (some ⟨b0, o0, none⟩) n l → Calls Try.prog 51 #[.agg #[.string s, .slice (some ⟨b0, o0, none⟩) n c], .string nm] W fun e w' => e = .returned (.tuple #[.string y, .bool true]) ∧ Below W.heap.size W w') := CS
    go_enter Try.func29, Try.ntmps29
    go_wp2_with fail
    refine (CS.out _ S0.out).mono ?_
    rintro e w1 ⟨rfl, hl⟩
    have X1 := Lib.hid (X0.out.below hl)
    have L1 := Lib.hid (L0.out.trans (hl.mono L0.out.size))
    clear hl CS S0 L0 X0 x0 x1
    obtain ⟨x0, x1⟩ := X1.out
    go_wp2
    have HF : Hid (v = false) := by show _ = _; rw [HV.out]; simp
    go_ret
    exact ⟨congrArg (fun b => Ending.returned (Value.bool b)) HF.out.symm, L1.out⟩

end Go.Proofs.Ytjgmocmaeadjdaa.InZoneI

/- What Exists does in the program (a range over the zone's records): it tells whether a record's name is the name or under it. Condition: fewer than 400000001 records, no name of more than 400000000 bytes. -/
namespace Go.Proofs.Ytjgmocmaeadjdaa.ExistsI
open Go.RowKit Go.Proofs.Ytjgmocmaeadjdaa.Mem Go.Proofs.Ytjgmocmaeadjdaa.MemR Go.Proofs.Ytjgmocmaeadjdaa.SetMath Go.Proofs.Ytjgmocmaeadjdaa.NameMath Go.Proofs.Ytjgmocmaeadjdaa.ZoneMath Go.Proofs.Ytjgmocmaeadjdaa.MemZ

set_option maxHeartbeats 4000000 in
theorem impl (s nm : ByteArray) (b0 o0 n c : Nat) (l : List Rec) (w : World) (hs : Sr w w.heap.size (some ⟨b0, o0, none⟩) n l) (hn : n ≤ 400000000) (hm : nm.size ≤ 400000000) (hz : ∀ r ∈ l, r.name.size ≤ 400000000) :
    Calls Try.prog 30 #[.agg #[.string s, .slice (some ⟨b0, o0, none⟩) n c], .string nm] w fun e w' => e = .returned (.bool (ex nm l)) ∧ Below w.heap.size w w' := by
  have L0 := Lib.hid ((Below.refl w.heap.size w).alloc (Nat.le_refl _) (.cells #[.string s, .slice (some ⟨b0, o0, none⟩) n c] 26))
  have HS := Lib.hid hs
  have HZ := Lib.hid hz
  clear hs hz
  go_enter Try.func30, Try.ntmps30
  go_wp2
  generalize w.alloc (.cells #[.string s, .slice (some ⟨b0, o0, none⟩) n c] 26) = w0 at *
  go_loopw [10] (fun i wr => ∃ k : Nat, k ≤ n ∧ i = .int .i64 k ∧ Hid (ex nm (l.take k) = false) ∧ Hid (Below w.heap.size w wr)) (fun i _ => n - (intOf i).toNat)
  case atStart => exact ⟨0, Nat.zero_le _, rfl, rfl, L0.out⟩
  case round =>
    clear L0
    obtain ⟨k, hk, rfl, HE, HL⟩ := hrel
    by_cases hlt : k < n
    · obtain ⟨b, off, hA, hbB, hcs⟩ := HS.out.2 (by omega)
      obtain ⟨rfl, rfl⟩ : b0 = b ∧ o0 = off := by simp at hA; exact hA
      clear hA
      have hkl : k < l.length := by rw [HS.out.1]; exact hlt
      obtain ⟨e0, e1, e2, e3, e4, e5⟩ := (hcs k hkl).below HL.out hbB
      clear hcs
      have HT := Lib.hid (ex_take nm l k hkl)
      have HH := Lib.hid (ex_hit nm l k hkl)
      have HM := Lib.hid (HZ.out _ (List.getElem_mem hkl))
      generalize l[k] = r at *
      have W1 : Hid (Below w.heap.size w (wr.alloc (.cells #[.string r.name, .int .i64 r.ty, .int .i64 r.ttl, .int .i64 r.n, .string r.host, .string r.text] 56))) := HL.out.alloc HL.out.size _
      have US := Lib.hid (fun W => UnderImpl.impl r.name nm W HM.out hm)
      generalize Un r.name nm = u at *
      go_wp2_with fail
      refine (US.out _).mono ?_
      rintro e w1 ⟨rfl, rfl⟩
      clear US e0 e1 e2 e3 e4 e5
      cases u with
      | true =>
        have HF := Lib.hid (HH.out rfl)
        clear HH HT
        go_wp2
        go_ret
        exact ⟨congrArg (fun b => Ending.returned (Value.bool b)) HF.out.symm, W1.out⟩
      | false =>
        have HN := Lib.hid (HT.out.trans (by rw [HE.out, Bool.or_false]))
        clear HH HT
        go_wp2
        go_roundw
        case rel => exact ⟨k + 1, by omega, by go_num, HN.out, W1.out⟩
        case measure => simp [intOf]; omega
    · obtain rfl : n = k := by omega
      have HF : Hid (ex nm l = false) := by rw [take_all HS.out.1] at HE; exact HE
      go_wp2
      go_ret
      exact ⟨congrArg (fun b => Ending.returned (Value.bool b)) HF.out.symm, HL.out⟩

end Go.Proofs.Ytjgmocmaeadjdaa.ExistsI

/- What KindIn does in the program: the kind of a question's reply, by a map of the records' sets. Condition: fewer than 100000001 records, no name of more than 400000000 bytes. -/
namespace Go.Proofs.Ytjgmocmaeadjdaa.KindI
open Go.RowKit Go.Proofs.Ytjgmocmaeadjdaa.Mem Go.Proofs.Ytjgmocmaeadjdaa.MemR Go.Proofs.Ytjgmocmaeadjdaa.SetMath Go.Proofs.Ytjgmocmaeadjdaa.NameMath Go.Proofs.Ytjgmocmaeadjdaa.ZoneMath Go.Proofs.Ytjgmocmaeadjdaa.ServeMath Go.Proofs.Ytjgmocmaeadjdaa.MemZ Go.Proofs.Ytjgmocmaeadjdaa.MemM Go.Proofs.Ytjgmocmaeadjdaa.MemQ Go.Proofs.Ytjgmocmaeadjdaa.MapK Go.Proofs.Ytjgmocmaeadjdaa.MapE Go.Proofs.Ytjgmocmaeadjdaa.GrpM Go.Proofs.Ytjgmocmaeadjdaa.SetI Go.Proofs.Ytjgmocmaeadjdaa.KindS Go.Proofs.Ytjgmocmaeadjdaa.CutOfS

/-- What is found in a map of sets: a slice with as many records as the key has. -/
theorem look {w1 W : World} {base b : Nat} {l : List Rec} (h : Gr w1 base b l) (hl : Below w1.heap.size w1 W) (y : ByteArray) (t : Int) :
    ∃ (A : Option Addr) (m cap : Nat), (Instr.lookup 48 (.map (some b)) (.agg #[.string y, .int .i64 t]) false).run Try.prog W = .ok (.slice A m cap) W ∧ (sf y t l).length = m := by
  obtain ⟨es, hm, hq, ho, hd⟩ := h
  have M1 := hm.below hl hm.lt
  have KT := KeyT.quests
  have HS' := ev_key es
  have HND := ev_nodup (es := es) (by rw [hq]; exact nodup_uq _)
  have HX : KeyT.KQ (qv ⟨y, t⟩) := ⟨⟨y, t⟩, rfl⟩
  by_cases hin : (⟨y, t⟩ : Key) ∈ uq (kl l)
  · obtain ⟨j, e, hj, hk'⟩ : ∃ (j : Nat) (e : Ge), es[j]? = some e ∧ e.q = ⟨y, t⟩ := by
      rw [← hq] at hin
      obtain ⟨e, he, hq⟩ := List.mem_map.1 hin
      obtain ⟨j, hj⟩ := List.getElem?_of_mem he
      exact ⟨j, e, hj, hq⟩
    refine ⟨some ⟨e.g, 0, none⟩, e.m, e.cap, M1.in KT Try.underlying48 HS' HND HX (show (qv ⟨y, t⟩, sv e) ∈ ev es from by rw [← hk']; exact List.mem_of_getElem? (ev_at hj)) false, ?_⟩
    have := own_m (ho j e hj)
    rw [hk'] at this
    exact this
  · refine ⟨none, 0, 0, M1.out KT Try.underlying48 (zero _) HS' HX (ev_out (by rw [hq]; exact hin)) false, ?_⟩
    have := sq_none (q := ⟨y, t⟩) (l := l) (fun h => hin (mem_uq.2 h))
    show (sq ⟨y, t⟩ l).length = 0
    rw [this]
    rfl

/-- 'm[k]' at an operation that its guard lets be. -/
theorem wp_look_g {P : Program} {w : World} {t : TypeId} {b : Nat} {ops : Array Oper} {rest : List Oper} {o : Oper} {a : Act} {Q : Exit → Act → World → Prop}
    (hg : Region.wanted o (yielded ops a.tmps) = true) (m x : Operand) (ok : Bool) (hop : o.op = Op.lookup t m x ok) (key r : Value) (hm : a.eval m = .map (some b)) (hx : a.eval x = key)
    (hrun : (Instr.lookup t (.map (some b)) key ok).run P w = .ok r w) (hK : wpList P ops Q rest (a.put o.dst r) w) : wpList P ops Q (o :: rest) a w := by
  refine wpList_step fun K' hK' => ?_
  rw [if_pos hg]
  unfold Oper.wp
  simp [execOp, hop, hm, hx, hrun, Result.andThen]
  exact hK' _ _ hK

set_option maxRecDepth 100000 in
set_option maxHeartbeats 8000000 in
theorem impl (s nm : ByteArray) (ty : Int) (b0 o0 n c : Nat) (l : List Rec) (w : World) (hs : Sr w w.heap.size (some ⟨b0, o0, none⟩) n l) (hn : n ≤ 100000000) (hm : s.size ≤ 400000000) (hq : nm.size ≤ 400000000) (hz : ∀ r ∈ l, r.name.size ≤ 400000000) :
    Calls Try.prog 8 #[.agg #[.string s, .slice (some ⟨b0, o0, none⟩) n c], .agg #[.string nm, .int .i64 ty]] w fun e w' => e = .returned (.int .i64 (kd s nm ty l)) ∧ Below w.heap.size w w' := by
  obtain ⟨⟨hx, hy⟩, hl0⟩ := two w s nm ty (.slice (some ⟨b0, o0, none⟩) n c) 26 28
  have X0 := Lib.hid hx
  have Y0 := Lib.hid hy
  have L0 := Lib.hid hl0
  have S0 := Lib.hid (hs.on hl0)
  have SE := Lib.hid (fun W hW => SetI.sets b0 o0 n c l W hW (by omega))
  have CS := Lib.hid (fun W hW => InZoneI.impl s nm b0 o0 n c l W hW (by omega) hm hq hz)
  have US := Lib.hid (fun W => UnderImpl.impl nm s W hq hm)
  have ES := Lib.hid (fun W hW => ExistsI.impl s nm b0 o0 n c l W hW (by omega) hq hz)
  have K0 := Lib.hid (@kd0 s nm ty l)
  have K1 := Lib.hid (@kd1 s nm ty l)
  have K2 := Lib.hid (@kd2 s nm ty l)
  have K3 := Lib.hid (@kd3 s nm ty l)
  have K4 := Lib.hid (@kd4 s nm ty l)
  have K5 := Lib.hid (@kd5 s nm ty l)
  clear hs hz hx hy hl0
  have HV : Hid (iz s nm l = (Un nm s && !(co nm (uq (cn s l))).isSome)) := rfl
  generalize kd s nm ty l = k at *
  obtain ⟨o, ho⟩ : ∃ o, co nm (uq (cn s l)) = o := ⟨_, rfl⟩
  rw [ho] at HV K1 K2 K3 K4 K5
  clear ho
  generalize iz s nm l = z at *
  generalize Un nm s = u at *
  generalize ex nm l = x at *
  obtain ⟨x0, x1⟩ := X0.out
  obtain ⟨y0, y1⟩ := Y0.out
  go_enter Try.func8, Try.ntmps8
  go_wp2_with fail
  refine (SE.out _ S0.out).mono ?_
  rintro e w1 ⟨bm, rfl, hbm, hgr, hl⟩
  have LK := Lib.hid (fun W (hW : Below w1.heap.size w1 W) => look hgr hW)
  have X1 := Lib.hid (X0.out.below hl)
  have Y1 := Lib.hid (Y0.out.below hl)
  have S1 := Lib.hid (S0.out.on hl)
  have L1 := Lib.hid (L0.out.trans (hl.mono L0.out.size))
  clear hl hgr hbm SE X0 Y0 S0 L0 x0 x1 y0 y1
  obtain ⟨x0, x1⟩ := X1.out
  obtain ⟨y0, y1⟩ := Y1.out
  go_wp2_with fail
  refine (US.out _).mono ?_
  rintro e w1 ⟨rfl, rfl⟩
  clear US
  cases u with
  | false =>
    have HF := Lib.hid (K0.out (by trivial))
    go_wp2
    go_ret
    exact ⟨congrArg (fun b => Ending.returned (Value.int .i64 b)) HF.out.symm, L1.out⟩
  | true =>
  go_wp2_with fail
  refine (CS.out _ S1.out).mono ?_
  rintro e w2 ⟨rfl, hl⟩
  have X2 := Lib.hid (X1.out.below hl)
  have Y2 := Lib.hid (Y1.out.below hl)
  have S2 := Lib.hid (S1.out.on hl)
  have L2 := Lib.hid (L1.out.trans (hl.mono L1.out.size))
  have LT := Lib.hid (LK.out _ hl nm ty)
  have LA := Lib.hid (LK.out _ hl nm 5)
  clear hl CS LK X1 Y1 S1 L1 x0 x1 y0 y1
  cases z with
  | false =>
    have HF := Lib.hid (K1.out (by trivial) (by have := HV.out; cases o with
      | none => simp at this
      | some y => rfl))
    go_wp2
    go_ret
    exact ⟨congrArg (fun b => Ending.returned (Value.int .i64 b)) HF.out.symm, L2.out⟩
  | true =>
  have HO : Hid (o = none) := by
    have := HV.out
    cases o with
    | none => rfl
    | some y => simp at this
  obtain ⟨A5, m5, c5, h5, e5⟩ := LA.out
  obtain ⟨At, mt, ct, ht, et⟩ := LT.out
  have H5 := Lib.hid h5
  have HT := Lib.hid ht
  have E5 := Lib.hid e5
  have ET := Lib.hid et
  clear h5 ht e5 et LA LT HV
  obtain ⟨x0, x1⟩ := X2.out
  obtain ⟨y0, y1⟩ := Y2.out
  by_cases hty : ty = 5
  · have t5 : (ty != 5) = false := by simp [hty]
    have HA : Hid (ty = 5 ∨ (sf nm 5 l).length = 0) := Or.inl hty
    clear hty
    by_cases h4 : (0 : Int) < (mt : Int)
    · have HF := Lib.hid (K3.out (by trivial) HO.out HA.out (by have := ET.out; omega))
      go_wp2_with (at_lookup; refine wp_look rfl _ _ false rfl (.agg #[.string nm, .int .i64 ty]) (.slice At mt ct) rfl rfl HT.out ?_)
      go_ret
      exact ⟨congrArg (fun b => Ending.returned (Value.int .i64 b)) HF.out.symm, L2.out⟩
    · have K4' := Lib.hid (K4.out (by trivial) HO.out HA.out (by have := ET.out; omega))
      have K5' := Lib.hid (K5.out (by trivial) HO.out HA.out (by have := ET.out; omega))
      go_wp2_with (at_lookup; refine wp_look rfl _ _ false rfl (.agg #[.string nm, .int .i64 ty]) (.slice At mt ct) rfl rfl HT.out ?_)
      refine (ES.out _ S2.out).mono ?_
      rintro e w5 ⟨rfl, hl⟩
      have L5 := Lib.hid (L2.out.trans (hl.mono L2.out.size))
      clear hl
      cases x with
      | true => go_wp2; go_ret; exact ⟨congrArg (fun b => Ending.returned (Value.int .i64 b)) (K4'.out (by trivial)).symm, L5.out⟩
      | false => go_wp2; go_ret; exact ⟨congrArg (fun b => Ending.returned (Value.int .i64 b)) (K5'.out (by trivial)).symm, L5.out⟩
  · have t5 : (ty != 5) = true := by simp [hty]
    have HTY := Lib.hid hty
    clear hty
    by_cases h3 : (0 : Int) < (m5 : Int)
    · have HF := Lib.hid (K2.out (by trivial) HO.out HTY.out (by have := E5.out; omega))
      go_wp2_with (at_lookup; refine wp_look_g rfl _ _ false rfl (.agg #[.string nm, .int .i64 5]) (.slice A5 m5 c5) rfl rfl H5.out ?_)
      go_ret
      exact ⟨congrArg (fun b => Ending.returned (Value.int .i64 b)) HF.out.symm, L2.out⟩
    · have HA : Hid (ty = 5 ∨ (sf nm 5 l).length = 0) := Or.inr (by have := E5.out; omega)
      by_cases h4 : (0 : Int) < (mt : Int)
      · have HF := Lib.hid (K3.out (by trivial) HO.out HA.out (by have := ET.out; omega))
        go_wp2_with (first | (at_lookup; refine wp_look rfl _ _ false rfl (.agg #[.string nm, .int .i64 ty]) (.slice At mt ct) rfl rfl HT.out ?_) | (at_lookup; refine wp_look_g rfl _ _ false rfl (.agg #[.string nm, .int .i64 5]) (.slice A5 m5 c5) rfl rfl H5.out ?_))
        go_ret
        exact ⟨congrArg (fun b => Ending.returned (Value.int .i64 b)) HF.out.symm, L2.out⟩
      · have K4' := Lib.hid (K4.out (by trivial) HO.out HA.out (by have := ET.out; omega))
        have K5' := Lib.hid (K5.out (by trivial) HO.out HA.out (by have := ET.out; omega))
        go_wp2_with (first | (at_lookup; refine wp_look rfl _ _ false rfl (.agg #[.string nm, .int .i64 ty]) (.slice At mt ct) rfl rfl HT.out ?_) | (at_lookup; refine wp_look_g rfl _ _ false rfl (.agg #[.string nm, .int .i64 5]) (.slice A5 m5 c5) rfl rfl H5.out ?_))
        refine (ES.out _ S2.out).mono ?_
        rintro e w5 ⟨rfl, hl⟩
        have L5 := Lib.hid (L2.out.trans (hl.mono L2.out.size))
        clear hl
        cases x with
        | true => go_wp2; go_ret; exact ⟨congrArg (fun b => Ending.returned (Value.int .i64 b)) (K4'.out (by trivial)).symm, L5.out⟩
        | false => go_wp2; go_ret; exact ⟨congrArg (fun b => Ending.returned (Value.int .i64 b)) (K5'.out (by trivial)).symm, L5.out⟩

end Go.Proofs.Ytjgmocmaeadjdaa.KindI
