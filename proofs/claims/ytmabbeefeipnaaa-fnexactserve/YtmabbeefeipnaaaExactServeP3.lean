/- What Serve does in the program: a reply with the code, the flag and the first eight records of each section of the content. Condition: at most 1048576 records, no name of more than 400000000 bytes. -/
import Derived.Test.YtmabbeefeipnaaaExactServeP2
import Derived.Test.YtmabbeefeipnaaaCutOfS
import Derived.Test.YtmabbeefeipnaaaZoneMath
import Derived.Test.YtmabbeefeipnaaaMemZ
import Derived.Test.YtmabbeefeipnaaaExactServeP1
import Derived.Test.YtmabbeefeipnaaaServeMath
import Derived.Test.YtmabbeefeipnaaaKindS
import Derived.Laws.EntriesVeiled
import Derived.Test.YtmabbeefeipnaaaCpyR
import Derived.Test.YtmabbeefeipnaaaResM
import Derived.Deep.RegionHeld3
import Derived.Laws.Tables
import Derived.Test.YtmabbeefeipnaaaResC
import Derived.Test.YtmabbeefeipnaaaWt
import Derived.Laws.AppendOwnNone
/- What InZone does in the program: it tells whether the name is under the zone's apex and under none of its cuts. Condition: fewer than 400000001 records, no name of more than 400000000 bytes. -/
namespace Go.Proofs.Ytmabbeefeipnaaa.InZoneI
open Go.RowKit Go.Proofs.Ytmabbeefeipnaaa.Mem Go.Proofs.Ytmabbeefeipnaaa.MemR Go.Proofs.Ytmabbeefeipnaaa.SetMath Go.Proofs.Ytmabbeefeipnaaa.NameMath Go.Proofs.Ytmabbeefeipnaaa.ZoneMath Go.Proofs.Ytmabbeefeipnaaa.MemZ Go.Proofs.Ytmabbeefeipnaaa.CutOfS

set_option maxHeartbeats 4000000 in
theorem impl (s nm : ByteArray) (b0 o0 n c : Nat) (l : List Rec) (w : World) (hs : Sr w w.heap.size (some ⟨b0, o0, none⟩) n l) (hn : n ≤ 400000000) (hm : s.size ≤ 400000000) (hq : nm.size ≤ 400000000) (hz : ∀ r ∈ l, r.name.size ≤ 400000000) :
    Calls Try.prog 43 #[.agg #[.string s, .slice (some ⟨b0, o0, none⟩) n c], .string nm] w fun e w' => e = .returned (.bool (iz s nm l)) ∧ Below w.heap.size w w' := by
  have L0 := Lib.hid ((Below.refl w.heap.size w).alloc (Nat.le_refl _) (.cells #[.string s, .slice (some ⟨b0, o0, none⟩) n c] 32))
  have X0 := Lib.hid (zx_new w 32 s (.slice (some ⟨b0, o0, none⟩) n c))
  have CS := Lib.hid (fun W hW => CutOfI.impl s nm b0 o0 n c l W hW hn hm hq hz)
  have US := Lib.hid (fun W => UnderImpl.impl nm s W hq hm)
  have S0 := Lib.hid (hs.on L0.out)
  clear hs hz
  have HV : Hid (iz s nm l = (Un nm s && !(co nm (uq (cn s l))).isSome)) := rfl
  generalize iz s nm l = v at *
  generalize co nm (uq (cn s l)) = o at *
  generalize Un nm s = u at *
  obtain ⟨x0, x1⟩ := X0.out
  cases o with
  | none =>
    replace CS : Hid (∀ W, Sr W W.heap.size (some ⟨b0, o0, none⟩) n l → Calls Try.prog 64 #[.agg #[.string s, .slice (some ⟨b0, o0, none⟩) n c], .string nm] W fun e w' => e = .returned (.tuple #[.string ⟨#[]⟩, .bool false]) ∧ Below W.heap.size W w') := CS
    go_enter Try.func43, Try.ntmps43
    go_wp2_with fail
    refine (CS.out _ S0.out).mono ?_
    rintro e w1 ⟨rfl, hl⟩
    have X1 := Lib.hid (X0.out.below hl)
    have L1 := Lib.hid (L0.out.trans (hl.mono L0.out.size))
    clear hl CS S0 L0 X0 x0 x1
    obtain ⟨x0, x1⟩ := X1.out
    go_wp2_with fail
    refine (US.out _).mono ?_
    rintro e w2 ⟨rfl, rfl⟩
    have L2 := Lib.hid L1.out
    clear US x0 x1 X1
    have HF : Hid (v = u) := by show _ = _; rw [HV.out]; simp
    clear HV
    cases u with
    | true => go_wp2; go_ret; exact ⟨congrArg (fun b => Ending.returned (Value.bool b)) HF.out.symm, L2.out⟩
    | false => go_wp2; go_ret; exact ⟨congrArg (fun b => Ending.returned (Value.bool b)) HF.out.symm, L2.out⟩
  | some y =>
    replace CS : Hid (∀ W, Sr W W.heap.size (some ⟨b0, o0, none⟩) n l → Calls Try.prog 64 #[.agg #[.string s, .slice (some ⟨b0, o0, none⟩) n c], .string nm] W fun e w' => e = .returned (.tuple #[.string y, .bool true]) ∧ Below W.heap.size W w') := CS
    go_enter Try.func43, Try.ntmps43
    go_wp2_with fail
    refine (CS.out _ S0.out).mono ?_
    rintro e w1 ⟨rfl, hl⟩
    have X1 := Lib.hid (X0.out.below hl)
    have L1 := Lib.hid (L0.out.trans (hl.mono L0.out.size))
    clear hl CS S0 L0 X0 x0 x1
    obtain ⟨x0, x1⟩ := X1.out
    go_wp2
    have HF : Hid (v = false) := by show _ = _; rw [HV.out]; simp
    go_ret
    exact ⟨congrArg (fun b => Ending.returned (Value.bool b)) HF.out.symm, L1.out⟩

end Go.Proofs.Ytmabbeefeipnaaa.InZoneI

/- What Exists does in the program (a range over the zone's records): it tells whether a record's name is the name or under it. Condition: fewer than 400000001 records, no name of more than 400000000 bytes. -/
namespace Go.Proofs.Ytmabbeefeipnaaa.ExistsI
open Go.RowKit Go.Proofs.Ytmabbeefeipnaaa.Mem Go.Proofs.Ytmabbeefeipnaaa.MemR Go.Proofs.Ytmabbeefeipnaaa.SetMath Go.Proofs.Ytmabbeefeipnaaa.NameMath Go.Proofs.Ytmabbeefeipnaaa.ZoneMath Go.Proofs.Ytmabbeefeipnaaa.MemZ

set_option maxHeartbeats 4000000 in
theorem impl (s nm : ByteArray) (b0 o0 n c : Nat) (l : List Rec) (w : World) (hs : Sr w w.heap.size (some ⟨b0, o0, none⟩) n l) (hn : n ≤ 400000000) (hm : nm.size ≤ 400000000) (hz : ∀ r ∈ l, r.name.size ≤ 400000000) :
    Calls Try.prog 44 #[.agg #[.string s, .slice (some ⟨b0, o0, none⟩) n c], .string nm] w fun e w' => e = .returned (.bool (ex nm l)) ∧ Below w.heap.size w w' := by
  have L0 := Lib.hid ((Below.refl w.heap.size w).alloc (Nat.le_refl _) (.cells #[.string s, .slice (some ⟨b0, o0, none⟩) n c] 32))
  have HS := Lib.hid hs
  have HZ := Lib.hid hz
  clear hs hz
  go_enter Try.func44, Try.ntmps44
  go_wp2
  generalize w.alloc (.cells #[.string s, .slice (some ⟨b0, o0, none⟩) n c] 32) = w0 at *
  go_loopw [10] (fun i wr => ∃ k : Nat, k ≤ n ∧ i = .int .i64 k ∧ Hid (ex nm (l.take k) = false) ∧ Hid (Below w.heap.size w wr)) (fun i _ => n - (intOf i).toNat)
  case atStart => exact ⟨0, Nat.zero_le _, rfl, rfl, L0.out⟩
  case round =>
    clear L0
    obtain ⟨k, hk, rfl, HE, HL⟩ := hrel
    by_cases hlt : k < n
    · obtain ⟨b, off, hA, hbB, hcs⟩ := HS.out.2 (by omega)
      obtain ⟨rfl, rfl⟩ : b0 = b ∧ o0 = off := by simp at hA; exact hA
      clear hA
      have hkl : k < l.length := by rw [HS.out.1]; exact hlt
      obtain ⟨e0, e1, e2, e3, e4, e5⟩ := (hcs k hkl).below HL.out hbB
      clear hcs
      have HT := Lib.hid (ex_take nm l k hkl)
      have HH := Lib.hid (ex_hit nm l k hkl)
      have HM := Lib.hid (HZ.out _ (List.getElem_mem hkl))
      generalize l[k] = r at *
      have W1 : Hid (Below w.heap.size w (wr.alloc (.cells #[.string r.name, .int .i64 r.ty, .int .i64 r.ttl, .int .i64 r.n, .string r.host, .string r.text] 68))) := HL.out.alloc HL.out.size _
      have US := Lib.hid (fun W => UnderImpl.impl r.name nm W HM.out hm)
      generalize Un r.name nm = u at *
      go_wp2_with fail
      refine (US.out _).mono ?_
      rintro e w1 ⟨rfl, rfl⟩
      clear US e0 e1 e2 e3 e4 e5
      cases u with
      | true =>
        have HF := Lib.hid (HH.out rfl)
        clear HH HT
        go_wp2
        go_ret
        exact ⟨congrArg (fun b => Ending.returned (Value.bool b)) HF.out.symm, W1.out⟩
      | false =>
        have HN := Lib.hid (HT.out.trans (by rw [HE.out, Bool.or_false]))
        clear HH HT
        go_wp2
        go_roundw
        case rel => exact ⟨k + 1, by omega, by go_num, HN.out, W1.out⟩
        case measure => simp [intOf]; omega
    · obtain rfl : n = k := by omega
      have HF : Hid (ex nm l = false) := by rw [take_all HS.out.1] at HE; exact HE
      go_wp2
      go_ret
      exact ⟨congrArg (fun b => Ending.returned (Value.bool b)) HF.out.symm, HL.out⟩

end Go.Proofs.Ytmabbeefeipnaaa.ExistsI

/- What KindIn does in the program: the kind of a question's reply, by a map of the records' sets. Condition: fewer than 100000001 records, no name of more than 400000000 bytes. -/
namespace Go.Proofs.Ytmabbeefeipnaaa.KindI
open Go.RowKit Go.Proofs.Ytmabbeefeipnaaa.Mem Go.Proofs.Ytmabbeefeipnaaa.MemR Go.Proofs.Ytmabbeefeipnaaa.SetMath Go.Proofs.Ytmabbeefeipnaaa.NameMath Go.Proofs.Ytmabbeefeipnaaa.ZoneMath Go.Proofs.Ytmabbeefeipnaaa.ServeMath Go.Proofs.Ytmabbeefeipnaaa.MemZ Go.Proofs.Ytmabbeefeipnaaa.MemM Go.Proofs.Ytmabbeefeipnaaa.MemQ Go.Proofs.Ytmabbeefeipnaaa.MapK Go.Proofs.Ytmabbeefeipnaaa.MapE Go.Proofs.Ytmabbeefeipnaaa.GrpM Go.Proofs.Ytmabbeefeipnaaa.SetI Go.Proofs.Ytmabbeefeipnaaa.KindS Go.Proofs.Ytmabbeefeipnaaa.CutOfS

/-- What is found in a map of sets: a slice with as many records as the key has. -/
theorem look {w1 W : World} {base b : Nat} {l : List Rec} (h : Gr w1 base b l) (hl : Below w1.heap.size w1 W) (y : ByteArray) (t : Int) :
    ∃ (A : Option Addr) (m cap : Nat), (Instr.lookup 61 (.map (some b)) (.agg #[.string y, .int .i64 t]) false).run Try.prog W = .ok (.slice A m cap) W ∧ (sf y t l).length = m := by
  obtain ⟨es, hm, hq, ho, hd⟩ := h
  have M1 := hm.below hl hm.lt
  have KT := KeyT.quests
  have HS' := ev_key es
  have HND := ev_nodup (es := es) (by rw [hq]; exact nodup_uq _)
  have HX : KeyT.KQ (qv ⟨y, t⟩) := ⟨⟨y, t⟩, rfl⟩
  by_cases hin : (⟨y, t⟩ : Key) ∈ uq (kl l)
  · obtain ⟨j, e, hj, hk'⟩ : ∃ (j : Nat) (e : Ge), es[j]? = some e ∧ e.q = ⟨y, t⟩ := by
      rw [← hq] at hin
      obtain ⟨e, he, hq⟩ := List.mem_map.1 hin
      obtain ⟨j, hj⟩ := List.getElem?_of_mem he
      exact ⟨j, e, hj, hq⟩
    refine ⟨some ⟨e.g, 0, none⟩, e.m, e.cap, M1.in KT Try.underlying61 HS' HND HX (show (qv ⟨y, t⟩, sv e) ∈ ev es from by rw [← hk']; exact List.mem_of_getElem? (ev_at hj)) false, ?_⟩
    have := own_m (ho j e hj)
    rw [hk'] at this
    exact this
  · refine ⟨none, 0, 0, M1.out KT Try.underlying61 (zero _) HS' HX (ev_out (by rw [hq]; exact hin)) false, ?_⟩
    have := sq_none (q := ⟨y, t⟩) (l := l) (fun h => hin (mem_uq.2 h))
    show (sq ⟨y, t⟩ l).length = 0
    rw [this]
    rfl

/-- 'm[k]' at an operation that its guard lets be. -/
theorem wp_look_g {P : Program} {w : World} {t : TypeId} {b : Nat} {ops : Array Oper} {rest : List Oper} {o : Oper} {a : Act} {Q : Exit → Act → World → Prop}
    (hg : Region.wanted o (yielded ops a.tmps) = true) (m x : Operand) (ok : Bool) (hop : o.op = Op.lookup t m x ok) (key r : Value) (hm : a.eval m = .map (some b)) (hx : a.eval x = key)
    (hrun : (Instr.lookup t (.map (some b)) key ok).run P w = .ok r w) (hK : wpList P ops Q rest (a.put o.dst r) w) : wpList P ops Q (o :: rest) a w := by
  refine wpList_step fun K' hK' => ?_
  rw [if_pos hg]
  unfold Oper.wp
  simp [execOp, hop, hm, hx, hrun, Result.andThen]
  exact hK' _ _ hK

set_option maxRecDepth 100000 in
set_option maxHeartbeats 8000000 in
theorem impl (s nm : ByteArray) (ty : Int) (b0 o0 n c : Nat) (l : List Rec) (w : World) (hs : Sr w w.heap.size (some ⟨b0, o0, none⟩) n l) (hn : n ≤ 100000000) (hm : s.size ≤ 400000000) (hq : nm.size ≤ 400000000) (hz : ∀ r ∈ l, r.name.size ≤ 400000000) :
    Calls Try.prog 14 #[.agg #[.string s, .slice (some ⟨b0, o0, none⟩) n c], .agg #[.string nm, .int .i64 ty]] w fun e w' => e = .returned (.int .i64 (kd s nm ty l)) ∧ Below w.heap.size w w' := by
  obtain ⟨⟨hx, hy⟩, hl0⟩ := two w s nm ty (.slice (some ⟨b0, o0, none⟩) n c) 32 34
  have X0 := Lib.hid hx
  have Y0 := Lib.hid hy
  have L0 := Lib.hid hl0
  have S0 := Lib.hid (hs.on hl0)
  have SE := Lib.hid (fun W hW => SetI.sets b0 o0 n c l W hW (by omega))
  have CS := Lib.hid (fun W hW => InZoneI.impl s nm b0 o0 n c l W hW (by omega) hm hq hz)
  have US := Lib.hid (fun W => UnderImpl.impl nm s W hq hm)
  have ES := Lib.hid (fun W hW => ExistsI.impl s nm b0 o0 n c l W hW (by omega) hq hz)
  have K0 := Lib.hid (@kd0 s nm ty l)
  have K1 := Lib.hid (@kd1 s nm ty l)
  have K2 := Lib.hid (@kd2 s nm ty l)
  have K3 := Lib.hid (@kd3 s nm ty l)
  have K4 := Lib.hid (@kd4 s nm ty l)
  have K5 := Lib.hid (@kd5 s nm ty l)
  clear hs hz hx hy hl0
  have HV : Hid (iz s nm l = (Un nm s && !(co nm (uq (cn s l))).isSome)) := rfl
  generalize kd s nm ty l = k at *
  obtain ⟨o, ho⟩ : ∃ o, co nm (uq (cn s l)) = o := ⟨_, rfl⟩
  rw [ho] at HV K1 K2 K3 K4 K5
  clear ho
  generalize iz s nm l = z at *
  generalize Un nm s = u at *
  generalize ex nm l = x at *
  obtain ⟨x0, x1⟩ := X0.out
  obtain ⟨y0, y1⟩ := Y0.out
  go_enter Try.func14, Try.ntmps14
  go_wp2_with fail
  refine (SE.out _ S0.out).mono ?_
  rintro e w1 ⟨bm, rfl, hbm, hgr, hl⟩
  have LK := Lib.hid (fun W (hW : Below w1.heap.size w1 W) => look hgr hW)
  have X1 := Lib.hid (X0.out.below hl)
  have Y1 := Lib.hid (Y0.out.below hl)
  have S1 := Lib.hid (S0.out.on hl)
  have L1 := Lib.hid (L0.out.trans (hl.mono L0.out.size))
  clear hl hgr hbm SE X0 Y0 S0 L0 x0 x1 y0 y1
  obtain ⟨x0, x1⟩ := X1.out
  obtain ⟨y0, y1⟩ := Y1.out
  go_wp2_with fail
  refine (US.out _).mono ?_
  rintro e w1 ⟨rfl, rfl⟩
  clear US
  cases u with
  | false =>
    have HF := Lib.hid (K0.out (by trivial))
    go_wp2
    go_ret
    exact ⟨congrArg (fun b => Ending.returned (Value.int .i64 b)) HF.out.symm, L1.out⟩
  | true =>
  go_wp2_with fail
  refine (CS.out _ S1.out).mono ?_
  rintro e w2 ⟨rfl, hl⟩
  have X2 := Lib.hid (X1.out.below hl)
  have Y2 := Lib.hid (Y1.out.below hl)
  have S2 := Lib.hid (S1.out.on hl)
  have L2 := Lib.hid (L1.out.trans (hl.mono L1.out.size))
  have LT := Lib.hid (LK.out _ hl nm ty)
  have LA := Lib.hid (LK.out _ hl nm 5)
  clear hl CS LK X1 Y1 S1 L1 x0 x1 y0 y1
  cases z with
  | false =>
    have HF := Lib.hid (K1.out (by trivial) (by have := HV.out; cases o with
      | none => simp at this
      | some y => rfl))
    go_wp2
    go_ret
    exact ⟨congrArg (fun b => Ending.returned (Value.int .i64 b)) HF.out.symm, L2.out⟩
  | true =>
  have HO : Hid (o = none) := by
    have := HV.out
    cases o with
    | none => rfl
    | some y => simp at this
  obtain ⟨A5, m5, c5, h5, e5⟩ := LA.out
  obtain ⟨At, mt, ct, ht, et⟩ := LT.out
  have H5 := Lib.hid h5
  have HT := Lib.hid ht
  have E5 := Lib.hid e5
  have ET := Lib.hid et
  clear h5 ht e5 et LA LT HV
  obtain ⟨x0, x1⟩ := X2.out
  obtain ⟨y0, y1⟩ := Y2.out
  by_cases hty : ty = 5
  · have t5 : (ty != 5) = false := by simp [hty]
    have HA : Hid (ty = 5 ∨ (sf nm 5 l).length = 0) := Or.inl hty
    clear hty
    by_cases h4 : (0 : Int) < (mt : Int)
    · have HF := Lib.hid (K3.out (by trivial) HO.out HA.out (by have := ET.out; omega))
      go_wp2_with (at_lookup; refine wp_look rfl _ _ false rfl (.agg #[.string nm, .int .i64 ty]) (.slice At mt ct) rfl rfl HT.out ?_)
      go_ret
      exact ⟨congrArg (fun b => Ending.returned (Value.int .i64 b)) HF.out.symm, L2.out⟩
    · have K4' := Lib.hid (K4.out (by trivial) HO.out HA.out (by have := ET.out; omega))
      have K5' := Lib.hid (K5.out (by trivial) HO.out HA.out (by have := ET.out; omega))
      go_wp2_with (at_lookup; refine wp_look rfl _ _ false rfl (.agg #[.string nm, .int .i64 ty]) (.slice At mt ct) rfl rfl HT.out ?_)
      refine (ES.out _ S2.out).mono ?_
      rintro e w5 ⟨rfl, hl⟩
      have L5 := Lib.hid (L2.out.trans (hl.mono L2.out.size))
      clear hl
      cases x with
      | true => go_wp2; go_ret; exact ⟨congrArg (fun b => Ending.returned (Value.int .i64 b)) (K4'.out (by trivial)).symm, L5.out⟩
      | false => go_wp2; go_ret; exact ⟨congrArg (fun b => Ending.returned (Value.int .i64 b)) (K5'.out (by trivial)).symm, L5.out⟩
  · have t5 : (ty != 5) = true := by simp [hty]
    have HTY := Lib.hid hty
    clear hty
    by_cases h3 : (0 : Int) < (m5 : Int)
    · have HF := Lib.hid (K2.out (by trivial) HO.out HTY.out (by have := E5.out; omega))
      go_wp2_with (at_lookup; refine wp_look_g rfl _ _ false rfl (.agg #[.string nm, .int .i64 5]) (.slice A5 m5 c5) rfl rfl H5.out ?_)
      go_ret
      exact ⟨congrArg (fun b => Ending.returned (Value.int .i64 b)) HF.out.symm, L2.out⟩
    · have HA : Hid (ty = 5 ∨ (sf nm 5 l).length = 0) := Or.inr (by have := E5.out; omega)
      by_cases h4 : (0 : Int) < (mt : Int)
      · have HF := Lib.hid (K3.out (by trivial) HO.out HA.out (by have := ET.out; omega))
        go_wp2_with (first | (at_lookup; refine wp_look rfl _ _ false rfl (.agg #[.string nm, .int .i64 ty]) (.slice At mt ct) rfl rfl HT.out ?_) | (at_lookup; refine wp_look_g rfl _ _ false rfl (.agg #[.string nm, .int .i64 5]) (.slice A5 m5 c5) rfl rfl H5.out ?_))
        go_ret
        exact ⟨congrArg (fun b => Ending.returned (Value.int .i64 b)) HF.out.symm, L2.out⟩
      · have K4' := Lib.hid (K4.out (by trivial) HO.out HA.out (by have := ET.out; omega))
        have K5' := Lib.hid (K5.out (by trivial) HO.out HA.out (by have := ET.out; omega))
        go_wp2_with (first | (at_lookup; refine wp_look rfl _ _ false rfl (.agg #[.string nm, .int .i64 ty]) (.slice At mt ct) rfl rfl HT.out ?_) | (at_lookup; refine wp_look_g rfl _ _ false rfl (.agg #[.string nm, .int .i64 5]) (.slice A5 m5 c5) rfl rfl H5.out ?_))
        refine (ES.out _ S2.out).mono ?_
        rintro e w5 ⟨rfl, hl⟩
        have L5 := Lib.hid (L2.out.trans (hl.mono L2.out.size))
        clear hl
        cases x with
        | true => go_wp2; go_ret; exact ⟨congrArg (fun b => Ending.returned (Value.int .i64 b)) (K4'.out (by trivial)).symm, L5.out⟩
        | false => go_wp2; go_ret; exact ⟨congrArg (fun b => Ending.returned (Value.int .i64 b)) (K5'.out (by trivial)).symm, L5.out⟩

end Go.Proofs.Ytmabbeefeipnaaa.KindI

/- What contentOf does in the program: the content of the reply of a question's kind, by a function value out of an array (a drawn region that fills the result's box). Condition: at most 1048576 records, no name of more than 400000000 bytes. -/
namespace Go.Proofs.Ytmabbeefeipnaaa.ContI
open Go.RowKit Go.Proofs.Ytmabbeefeipnaaa.Mem Go.Proofs.Ytmabbeefeipnaaa.MemR Go.Proofs.Ytmabbeefeipnaaa.SetMath Go.Proofs.Ytmabbeefeipnaaa.NameMath Go.Proofs.Ytmabbeefeipnaaa.ZoneMath Go.Proofs.Ytmabbeefeipnaaa.ServeMath Go.Proofs.Ytmabbeefeipnaaa.MemZ Go.Proofs.Ytmabbeefeipnaaa.MemM Go.Proofs.Ytmabbeefeipnaaa.KindS Go.Proofs.Ytmabbeefeipnaaa.ResC Go.Proofs.Ytmabbeefeipnaaa.ConI Go.Proofs.Ytmabbeefeipnaaa.RefI

section
variable {w0 w w1 w' : World} {g h k a i : Nat} {s nm : ByteArray} {ty : Int} {x v : Value}

theorem keptK (m : (((w.cell? ⟨g, 0, none⟩ = some (.string s) ∧ w.cell? ⟨g, 1, none⟩ = some x) ∧ (w.cell? ⟨h, 0, none⟩ = some (.string nm) ∧ w.cell? ⟨h, 1, none⟩ = some (.int .i64 ty)) ∧ w.cell? ⟨a, i, none⟩ = some v) ∧ RC w k) ∧ Svz w0 w) (hl : Below w.heap.size w w') : (((w'.cell? ⟨g, 0, none⟩ = some (.string s) ∧ w'.cell? ⟨g, 1, none⟩ = some x) ∧ (w'.cell? ⟨h, 0, none⟩ = some (.string nm) ∧ w'.cell? ⟨h, 1, none⟩ = some (.int .i64 ty)) ∧ w'.cell? ⟨a, i, none⟩ = some v) ∧ RC w' k) ∧ Svz w0 w' :=
  ⟨⟨⟨Zx.below m.1.1.1 hl, Qx.below m.1.1.2.1 hl, (hl.cell (p := ⟨a, i, none⟩) (World.block_lt_of_cell? _ _ m.1.1.2.2)).trans m.1.1.2.2⟩, m.1.2.below hl⟩, m.2.trans (hl.mono m.2.size)⟩

theorem keptK_draw (m : (((w.cell? ⟨g, 0, none⟩ = some (.string s) ∧ w.cell? ⟨g, 1, none⟩ = some x) ∧ (w.cell? ⟨h, 0, none⟩ = some (.string nm) ∧ w.cell? ⟨h, 1, none⟩ = some (.int .i64 ty)) ∧ w.cell? ⟨a, i, none⟩ = some v) ∧ RC w k) ∧ Svz w0 w) : (((w.drew.cell? ⟨g, 0, none⟩ = some (.string s) ∧ w.drew.cell? ⟨g, 1, none⟩ = some x) ∧ (w.drew.cell? ⟨h, 0, none⟩ = some (.string nm) ∧ w.drew.cell? ⟨h, 1, none⟩ = some (.int .i64 ty)) ∧ w.drew.cell? ⟨a, i, none⟩ = some v) ∧ RC w.drew k) ∧ Svz w0 w.drew := keptK m ((Below.refl _ _).drew)

theorem keptK_put (m : (((w.cell? ⟨g, 0, none⟩ = some (.string s) ∧ w.cell? ⟨g, 1, none⟩ = some x) ∧ (w.cell? ⟨h, 0, none⟩ = some (.string nm) ∧ w.cell? ⟨h, 1, none⟩ = some (.int .i64 ty)) ∧ w.cell? ⟨a, i, none⟩ = some v) ∧ RC w k) ∧ Svz w0 w) (h1 : g ≠ k) (h2 : h ≠ k) (h4 : a ≠ k) (h3 : w0.heap.size ≤ k) (j : Nat) (u : Value) : ((((w.setCell ⟨k, j, none⟩ u).cell? ⟨g, 0, none⟩ = some (.string s) ∧ (w.setCell ⟨k, j, none⟩ u).cell? ⟨g, 1, none⟩ = some x) ∧ ((w.setCell ⟨k, j, none⟩ u).cell? ⟨h, 0, none⟩ = some (.string nm) ∧ (w.setCell ⟨k, j, none⟩ u).cell? ⟨h, 1, none⟩ = some (.int .i64 ty)) ∧ (w.setCell ⟨k, j, none⟩ u).cell? ⟨a, i, none⟩ = some v) ∧ RC (w.setCell ⟨k, j, none⟩ u) k) ∧ Svz w0 (w.setCell ⟨k, j, none⟩ u) := by
  have e : ∀ b c : Nat, b ≠ k → (w.setCell ⟨k, j, none⟩ u).cell? ⟨b, c, none⟩ = w.cell? ⟨b, c, none⟩ := fun b c hb => World.cell?_of_block (Below.heap_setCell w ⟨k, j, none⟩ u b hb)
  exact ⟨⟨⟨⟨(e g 0 h1).trans m.1.1.1.1, (e g 1 h1).trans m.1.1.1.2⟩, ⟨(e h 0 h2).trans m.1.1.2.1.1, (e h 1 h2).trans m.1.1.2.1.2⟩, (e a i h4).trans m.1.1.2.2⟩, m.1.2.put j u⟩, Below.setCell m.2 (p := ⟨k, j, none⟩) h3 u⟩

theorem keptK_fil (m : (((w1.cell? ⟨g, 0, none⟩ = some (.string s) ∧ w1.cell? ⟨g, 1, none⟩ = some x) ∧ (w1.cell? ⟨h, 0, none⟩ = some (.string nm) ∧ w1.cell? ⟨h, 1, none⟩ = some (.int .i64 ty)) ∧ w1.cell? ⟨a, i, none⟩ = some v) ∧ RC w1 k) ∧ Svz w0 w1) (h1 : g ≠ k) (h2 : h ≠ k) (h4 : a ≠ k) (h3 : w0.heap.size ≤ k) (v0 v1 v2 v3 v4 : Value) : ((((((((w1.setCell ⟨k, 0, none⟩ v0).setCell ⟨k, 1, none⟩ v1).setCell ⟨k, 2, none⟩ v2).setCell ⟨k, 3, none⟩ v3).setCell ⟨k, 4, none⟩ v4).cell? ⟨g, 0, none⟩ = some (.string s) ∧ (((((w1.setCell ⟨k, 0, none⟩ v0).setCell ⟨k, 1, none⟩ v1).setCell ⟨k, 2, none⟩ v2).setCell ⟨k, 3, none⟩ v3).setCell ⟨k, 4, none⟩ v4).cell? ⟨g, 1, none⟩ = some x) ∧ ((((((w1.setCell ⟨k, 0, none⟩ v0).setCell ⟨k, 1, none⟩ v1).setCell ⟨k, 2, none⟩ v2).setCell ⟨k, 3, none⟩ v3).setCell ⟨k, 4, none⟩ v4).cell? ⟨h, 0, none⟩ = some (.string nm) ∧ (((((w1.setCell ⟨k, 0, none⟩ v0).setCell ⟨k, 1, none⟩ v1).setCell ⟨k, 2, none⟩ v2).setCell ⟨k, 3, none⟩ v3).setCell ⟨k, 4, none⟩ v4).cell? ⟨h, 1, none⟩ = some (.int .i64 ty)) ∧ (((((w1.setCell ⟨k, 0, none⟩ v0).setCell ⟨k, 1, none⟩ v1).setCell ⟨k, 2, none⟩ v2).setCell ⟨k, 3, none⟩ v3).setCell ⟨k, 4, none⟩ v4).cell? ⟨a, i, none⟩ = some v) ∧ RC (((((w1.setCell ⟨k, 0, none⟩ v0).setCell ⟨k, 1, none⟩ v1).setCell ⟨k, 2, none⟩ v2).setCell ⟨k, 3, none⟩ v3).setCell ⟨k, 4, none⟩ v4) k) ∧ Svz w0 (((((w1.setCell ⟨k, 0, none⟩ v0).setCell ⟨k, 1, none⟩ v1).setCell ⟨k, 2, none⟩ v2).setCell ⟨k, 3, none⟩ v3).setCell ⟨k, 4, none⟩ v4) :=
  keptK_put (keptK_put (keptK_put (keptK_put (keptK_put m h1 h2 h4 h3 0 v0) h1 h2 h4 h3 1 v1) h1 h2 h4 h3 2 v2) h1 h2 h4 h3 3 v3) h1 h2 h4 h3 4 v4
end

/-- The content of a reply of the kind k. -/
def GivesQ (w : World) (k : Int) (s nm : ByteArray) (ty : Int) (l : List Rec) (e : Ending) (w' : World) : Prop := GivesK w (rcd k) (aut k) (anl k nm ty l) (mol k s nm l) (hel k s nm l) e w'

theorem cases (w : World) (s nm : ByteArray) (ty : Int) (l : List Rec) (e : Ending) (w' : World) (k : Int) :
    (k = 0 → GivesK w 5 false [] [] [] e w' → GivesQ w k s nm ty l e w') ∧ (k = 1 → GivesK w 0 false [] (sf (cu s nm l) 2 l) (gl (uq (hl (sf (cu s nm l) 2 l))) l) e w' → GivesQ w k s nm ty l e w') ∧ (k = 2 → GivesK w 0 true (sf nm 5 l) [] [] e w' → GivesQ w k s nm ty l e w') ∧ (k = 3 → GivesK w 0 true (sf nm ty l) [] [] e w' → GivesQ w k s nm ty l e w') ∧ (k = 4 → GivesK w 0 true [] [st l] [] e w' → GivesQ w k s nm ty l e w') ∧ (k = 5 → GivesK w 3 true [] [st l] [] e w' → GivesQ w k s nm ty l e w') := by
  refine ⟨fun h x => ?_, fun h x => ?_, fun h x => ?_, fun h x => ?_, fun h x => ?_, fun h x => ?_⟩ <;> subst h <;> exact x

set_option maxRecDepth 100000 in
set_option maxHeartbeats 16000000 in
theorem impl (s nm : ByteArray) (ty : Int) (b0 o0 n c : Nat) (l : List Rec) (w : World) (hs : Sr w w.heap.size (some ⟨b0, o0, none⟩) n l) (hn : n ≤ 1048576) (hm : s.size ≤ 400000000) (hq : nm.size ≤ 400000000) (hz : ∀ r ∈ l, r.name.size ≤ 400000000) :
    Calls Try.prog 45 #[.agg #[.string s, .slice (some ⟨b0, o0, none⟩) n c], .agg #[.string nm, .int .i64 ty]] w (GivesQ w (kd s nm ty l) s nm ty l) := by
  obtain ⟨⟨hx, hy⟩, hb0, hl0⟩ := three w s nm ty (.slice (some ⟨b0, o0, none⟩) n c) 32 34 64 0 false
  have al : Below (((w.alloc (.cells #[.string s, .slice (some ⟨b0, o0, none⟩) n c] 32)).alloc (.cells #[.string nm, .int .i64 ty] 34)).alloc (.cells #[.int .i64 0, .bool false, .slice none 0 0, .slice none 0 0, .slice none 0 0] 64)).heap.size (((w.alloc (.cells #[.string s, .slice (some ⟨b0, o0, none⟩) n c] 32)).alloc (.cells #[.string nm, .int .i64 ty] 34)).alloc (.cells #[.int .i64 0, .bool false, .slice none 0 0, .slice none 0 0, .slice none 0 0] 64)) ((((w.alloc (.cells #[.string s, .slice (some ⟨b0, o0, none⟩) n c] 32)).alloc (.cells #[.string nm, .int .i64 ty] 34)).alloc (.cells #[.int .i64 0, .bool false, .slice none 0 0, .slice none 0 0, .slice none 0 0] 64)).alloc (.cells #[.func (.func 65) #[] #[], .func (.func 66) #[] #[], .func (.func 67) #[] #[], .func (.func 68) #[] #[], .func (.func 69) #[] #[], .func (.func 70) #[] #[]] 85)) := (Below.refl _ _).alloc (Nat.le_refl _) _
  have X0 := Lib.hid (hx.below al)
  have Y0 := Lib.hid (hy.below al)
  have R0 := Lib.hid (hb0.below al hb0.lt)
  have L0 := Lib.hid (hl0.trans (al.mono hl0.size))
  have N0 : Hid (Bk ((((w.alloc (.cells #[.string s, .slice (some ⟨b0, o0, none⟩) n c] 32)).alloc (.cells #[.string nm, .int .i64 ty] 34)).alloc (.cells #[.int .i64 0, .bool false, .slice none 0 0, .slice none 0 0, .slice none 0 0] 64)).alloc (.cells #[.func (.func 65) #[] #[], .func (.func 66) #[] #[], .func (.func 67) #[] #[], .func (.func 68) #[] #[], .func (.func 69) #[] #[], .func (.func 70) #[] #[]] 85)) (w.heap.size + 1 + 1 + 1) 85 [.func (.func 65) #[] #[], .func (.func 66) #[] #[], .func (.func 67) #[] #[], .func (.func 68) #[] #[], .func (.func 69) #[] #[], .func (.func 70) #[] #[]]) := by
    have := heap_alloc_new (((w.alloc (.cells #[.string s, .slice (some ⟨b0, o0, none⟩) n c] 32)).alloc (.cells #[.string nm, .int .i64 ty] 34)).alloc (.cells #[.int .i64 0, .bool false, .slice none 0 0, .slice none 0 0, .slice none 0 0] 64)) (.cells #[.func (.func 65) #[] #[], .func (.func 66) #[] #[], .func (.func 67) #[] #[], .func (.func 68) #[] #[], .func (.func 69) #[] #[], .func (.func 70) #[] #[]] 85)
    rw [show (((w.alloc (.cells #[.string s, .slice (some ⟨b0, o0, none⟩) n c] 32)).alloc (.cells #[.string nm, .int .i64 ty] 34)).alloc (.cells #[.int .i64 0, .bool false, .slice none 0 0, .slice none 0 0, .slice none 0 0] 64)).heap.size = w.heap.size + 1 + 1 + 1 by simp] at this
    exact this
  have HS := Lib.hid hs
  clear hx hy hb0 hl0 al hs
  have KI := Lib.hid (fun W hW => KindI.impl s nm ty b0 o0 n c l W hW (by omega) hm hq hz)
  have G0 := Lib.hid (fun (W : World) (hW : True ∧ Svz w W) => ConI.refusal s nm ty b0 o0 n c W)
  have G1 := Lib.hid (fun (W : World) (hW : True ∧ Svz w W) => RefI.referral s nm ty b0 o0 n c l W (HS.out.on hW.2) hn hm hq hz)
  have G2 := Lib.hid (fun (W : World) (hW : True ∧ Svz w W) => ConI.aliasReply s nm ty b0 o0 n c l W (HS.out.on hW.2) hn)
  have G3 := Lib.hid (fun (W : World) (hW : True ∧ Svz w W) => ConI.setReply s nm ty b0 o0 n c l W (HS.out.on hW.2) hn)
  have G4 := Lib.hid (fun (W : World) (hW : True ∧ Svz w W) => ConI.noDataReply s nm ty b0 o0 n c l W (HS.out.on hW.2) hn hm hz)
  have G5 := Lib.hid (fun (W : World) (hW : True ∧ Svz w W) => ConI.noNameReply s nm ty b0 o0 n c l W (HS.out.on hW.2) hn hm hz)
  clear hz
  have K6 := kd_six s nm ty l
  have KE := Lib.hid (fun (W W' : World) (e : Ending) => cases W s nm ty l e W' (kd s nm ty l))
  generalize kd s nm ty l = k at *
  have n1 : w.heap.size ≠ w.heap.size + 1 + 1 := by omega
  have n2 : w.heap.size + 1 ≠ w.heap.size + 1 + 1 := by omega
  have n4 : w.heap.size + 1 + 1 + 1 ≠ w.heap.size + 1 + 1 := by omega
  have n3 : w.heap.size ≤ w.heap.size + 1 + 1 := by omega
  go_enter Try.func45, Try.ntmps45
  go_wp2
  generalize (((w.alloc (.cells #[.string s, .slice (some ⟨b0, o0, none⟩) n c] 32)).alloc (.cells #[.string nm, .int .i64 ty] 34)).alloc (.cells #[.int .i64 0, .bool false, .slice none 0 0, .slice none 0 0, .slice none 0 0] 64)).alloc (.cells #[.func (.func 65) #[] #[], .func (.func 66) #[] #[], .func (.func 67) #[] #[], .func (.func 68) #[] #[], .func (.func 69) #[] #[], .func (.func 70) #[] #[]] 85) = W0 at *
  rcases K6 with hk | hk | hk | hk | hk | hk
  · have KJ : Hid (∀ (e : Ending) (w' : World), GivesK w 5 false [] [] [] e w' → GivesQ w k s nm ty l e w') := fun e w' => (KE.out _ _ _).1 hk
    subst hk
    have KIR : Hid (∀ W : World, (((W.cell? ⟨w.heap.size, 0, none⟩ = some (.string s) ∧ W.cell? ⟨w.heap.size, 1, none⟩ = some (.slice (some ⟨b0, o0, none⟩) n c)) ∧ (W.cell? ⟨w.heap.size + 1, 0, none⟩ = some (.string nm) ∧ W.cell? ⟨w.heap.size + 1, 1, none⟩ = some (.int .i64 ty)) ∧ W.cell? ⟨w.heap.size + 1 + 1 + 1, 0, none⟩ = some (.func (.func 65) #[] #[])) ∧ RC W (w.heap.size + 1 + 1)) ∧ Svz w W → Calls Try.prog 14 #[.agg #[.string s, .slice (some ⟨b0, o0, none⟩) n c], .agg #[.string nm, .int .i64 ty]] W fun e w' => e = .returned (.int .i64 0) ∧ Below W.heap.size W w') := fun W hW => KI.out W (HS.out.on hW.2)
    have GR : Hid (∀ W : World, (((W.cell? ⟨w.heap.size, 0, none⟩ = some (.string s) ∧ W.cell? ⟨w.heap.size, 1, none⟩ = some (.slice (some ⟨b0, o0, none⟩) n c)) ∧ (W.cell? ⟨w.heap.size + 1, 0, none⟩ = some (.string nm) ∧ W.cell? ⟨w.heap.size + 1, 1, none⟩ = some (.int .i64 ty)) ∧ W.cell? ⟨w.heap.size + 1 + 1 + 1, 0, none⟩ = some (.func (.func 65) #[] #[])) ∧ RC W (w.heap.size + 1 + 1)) ∧ Svz w W → Calls Try.prog 65 #[.agg #[.string s, .slice (some ⟨b0, o0, none⟩) n c], .agg #[.string nm, .int .i64 ty]] W (GivesK W 5 false [] [] [])) := fun W hW => G0.out W ⟨trivial, hW.2⟩
    have SS0 : (((W0.cell? ⟨w.heap.size, 0, none⟩ = some (.string s) ∧ W0.cell? ⟨w.heap.size, 1, none⟩ = some (.slice (some ⟨b0, o0, none⟩) n c)) ∧ (W0.cell? ⟨w.heap.size + 1, 0, none⟩ = some (.string nm) ∧ W0.cell? ⟨w.heap.size + 1, 1, none⟩ = some (.int .i64 ty)) ∧ W0.cell? ⟨w.heap.size + 1 + 1 + 1, 0, none⟩ = some (.func (.func 65) #[] #[])) ∧ RC W0 (w.heap.size + 1 + 1)) ∧ Svz w W0 := ⟨⟨⟨X0.out, Y0.out, N0.out.cell 0⟩, ⟨_, rfl, R0.out⟩⟩, L0.out⟩
    clear X0 Y0 N0 KI G0 G1 G2 G3 G4 G5 KE
    go_region_held3 (fun w' => (((w'.cell? ⟨w.heap.size, 0, none⟩ = some (.string s) ∧ w'.cell? ⟨w.heap.size, 1, none⟩ = some (.slice (some ⟨b0, o0, none⟩) n c)) ∧ (w'.cell? ⟨w.heap.size + 1, 0, none⟩ = some (.string nm) ∧ w'.cell? ⟨w.heap.size + 1, 1, none⟩ = some (.int .i64 ty)) ∧ w'.cell? ⟨w.heap.size + 1 + 1 + 1, 0, none⟩ = some (.func (.func 65) #[] #[])) ∧ RC w' (w.heap.size + 1 + 1)) ∧ Svz w w')
      (first | with_reducible exact keptK_fil (w1 := w4) (by assumption) n1 n2 n4 n3 _ _ _ _ _ | with_reducible exact SS0 | with_reducible assumption | with_reducible exact keptK (by assumption) hl | with_reducible exact keptK_draw (by assumption) | fail)
      (first
        | (go_at_call 14; (with_reducible refine (KIR.out _ (by assumption)).mono ?_); rintro e w2 ⟨rfl, hl⟩; have y1 := hl)
        | (go_at_call 65; (with_reducible refine (GR.out _ (by assumption)).mono ?_); rintro e w4 ⟨A1, m1, c1, A2, m2, c2, A3, m3, c3, rfl, q1, q2, q3, hl⟩; have y2 := hl; have HR := (keptK (by assumption) hl).1.2; have p0 := HR.cell 0 (by decide); have f0 := HR.free 0; have p1 := HR.cell 1 (by decide); have f1 := HR.free 1; have p2 := HR.cell 2 (by decide); have f2 := HR.free 2; have p3 := HR.cell 3 (by decide); have f3 := HR.free 3; have p4 := HR.cell 4 (by decide); have f4 := HR.free 4; clear HR)
        | fail)
    rename_i hH
    have a0 : Below w.heap.size w W0.drew := L0.out.drew
    have a1 := a0.trans (y1.mono a0.size)
    have a2 := a1.trans (y2.mono a1.size)
    have RA : RC w4 (w.heap.size + 1 + 1) := by
      have b0 : RC W0.drew (w.heap.size + 1 + 1) := ⟨_, rfl, R0.out⟩
      exact (b0.below y1).below y2
    have G4 : w.heap.size + 1 + 1 < w2.heap.size := Nat.lt_of_lt_of_le (show w.heap.size + 1 + 1 < W0.drew.heap.size from R0.out.lt) y1.size
    have F := Lib.hid (RA.fil 5 false (.slice A1 m1 c1) (.slice A2 m2 c2) (.slice A3 m3 c3))
    have E := Lib.hid (filC_below a2 (g := w.heap.size + 1 + 1) (by omega) 5 false (.slice A1 m1 c1) (.slice A2 m2 c2) (.slice A3 m3 c3))
    have Q1 := Lib.hid ((q1.fil G4 5 false (.slice A1 m1 c1) (.slice A2 m2 c2) (.slice A3 m3 c3)).low (show w.heap.size ≤ w2.heap.size by omega))
    have Q2 := Lib.hid ((q2.fil G4 5 false (.slice A1 m1 c1) (.slice A2 m2 c2) (.slice A3 m3 c3)).low (show w.heap.size ≤ w2.heap.size by omega))
    have Q3 := Lib.hid ((q3.fil G4 5 false (.slice A1 m1 c1) (.slice A2 m2 c2) (.slice A3 m3 c3)).low (show w.heap.size ≤ w2.heap.size by omega))
    clear hH SS0 KIR GR a0 a1 a2 RA R0 L0 y1 y2 hl G4 q1 q2 q3 p0 f0 p1 f1 p2 f2 p3 f3 p4 f4
    go_wp2
    exact bodyPost_ret (v := .agg #[.int .i64 5, .bool false, .slice A1 m1 c1, .slice A2 m2 c2, .slice A3 m3 c3]) (res1C rfl F.out rfl) rfl (KJ.out _ _ ⟨_, _, _, _, _, _, _, _, _, rfl, Q1.out, Q2.out, Q3.out, E.out⟩)
  · have KJ : Hid (∀ (e : Ending) (w' : World), GivesK w 0 false [] (sf (cu s nm l) 2 l) (gl (uq (hl (sf (cu s nm l) 2 l))) l) e w' → GivesQ w k s nm ty l e w') := fun e w' => (KE.out _ _ _).2.1 hk
    subst hk
    have KIR : Hid (∀ W : World, (((W.cell? ⟨w.heap.size, 0, none⟩ = some (.string s) ∧ W.cell? ⟨w.heap.size, 1, none⟩ = some (.slice (some ⟨b0, o0, none⟩) n c)) ∧ (W.cell? ⟨w.heap.size + 1, 0, none⟩ = some (.string nm) ∧ W.cell? ⟨w.heap.size + 1, 1, none⟩ = some (.int .i64 ty)) ∧ W.cell? ⟨w.heap.size + 1 + 1 + 1, 1, none⟩ = some (.func (.func 66) #[] #[])) ∧ RC W (w.heap.size + 1 + 1)) ∧ Svz w W → Calls Try.prog 14 #[.agg #[.string s, .slice (some ⟨b0, o0, none⟩) n c], .agg #[.string nm, .int .i64 ty]] W fun e w' => e = .returned (.int .i64 1) ∧ Below W.heap.size W w') := fun W hW => KI.out W (HS.out.on hW.2)
    have GR : Hid (∀ W : World, (((W.cell? ⟨w.heap.size, 0, none⟩ = some (.string s) ∧ W.cell? ⟨w.heap.size, 1, none⟩ = some (.slice (some ⟨b0, o0, none⟩) n c)) ∧ (W.cell? ⟨w.heap.size + 1, 0, none⟩ = some (.string nm) ∧ W.cell? ⟨w.heap.size + 1, 1, none⟩ = some (.int .i64 ty)) ∧ W.cell? ⟨w.heap.size + 1 + 1 + 1, 1, none⟩ = some (.func (.func 66) #[] #[])) ∧ RC W (w.heap.size + 1 + 1)) ∧ Svz w W → Calls Try.prog 66 #[.agg #[.string s, .slice (some ⟨b0, o0, none⟩) n c], .agg #[.string nm, .int .i64 ty]] W (GivesK W 0 false [] (sf (cu s nm l) 2 l) (gl (uq (hl (sf (cu s nm l) 2 l))) l))) := fun W hW => G1.out W ⟨trivial, hW.2⟩
    have SS0 : (((W0.cell? ⟨w.heap.size, 0, none⟩ = some (.string s) ∧ W0.cell? ⟨w.heap.size, 1, none⟩ = some (.slice (some ⟨b0, o0, none⟩) n c)) ∧ (W0.cell? ⟨w.heap.size + 1, 0, none⟩ = some (.string nm) ∧ W0.cell? ⟨w.heap.size + 1, 1, none⟩ = some (.int .i64 ty)) ∧ W0.cell? ⟨w.heap.size + 1 + 1 + 1, 1, none⟩ = some (.func (.func 66) #[] #[])) ∧ RC W0 (w.heap.size + 1 + 1)) ∧ Svz w W0 := ⟨⟨⟨X0.out, Y0.out, N0.out.cell 1⟩, ⟨_, rfl, R0.out⟩⟩, L0.out⟩
    clear X0 Y0 N0 KI G0 G1 G2 G3 G4 G5 KE
    go_region_held3 (fun w' => (((w'.cell? ⟨w.heap.size, 0, none⟩ = some (.string s) ∧ w'.cell? ⟨w.heap.size, 1, none⟩ = some (.slice (some ⟨b0, o0, none⟩) n c)) ∧ (w'.cell? ⟨w.heap.size + 1, 0, none⟩ = some (.string nm) ∧ w'.cell? ⟨w.heap.size + 1, 1, none⟩ = some (.int .i64 ty)) ∧ w'.cell? ⟨w.heap.size + 1 + 1 + 1, 1, none⟩ = some (.func (.func 66) #[] #[])) ∧ RC w' (w.heap.size + 1 + 1)) ∧ Svz w w')
      (first | with_reducible exact keptK_fil (w1 := w4) (by assumption) n1 n2 n4 n3 _ _ _ _ _ | with_reducible exact SS0 | with_reducible assumption | with_reducible exact keptK (by assumption) hl | with_reducible exact keptK_draw (by assumption) | fail)
      (first
        | (go_at_call 14; (with_reducible refine (KIR.out _ (by assumption)).mono ?_); rintro e w2 ⟨rfl, hl⟩; have y1 := hl)
        | (go_at_call 66; (with_reducible refine (GR.out _ (by assumption)).mono ?_); rintro e w4 ⟨A1, m1, c1, A2, m2, c2, A3, m3, c3, rfl, q1, q2, q3, hl⟩; have y2 := hl; have HR := (keptK (by assumption) hl).1.2; have p0 := HR.cell 0 (by decide); have f0 := HR.free 0; have p1 := HR.cell 1 (by decide); have f1 := HR.free 1; have p2 := HR.cell 2 (by decide); have f2 := HR.free 2; have p3 := HR.cell 3 (by decide); have f3 := HR.free 3; have p4 := HR.cell 4 (by decide); have f4 := HR.free 4; clear HR)
        | fail)
    rename_i hH
    have a0 : Below w.heap.size w W0.drew := L0.out.drew
    have a1 := a0.trans (y1.mono a0.size)
    have a2 := a1.trans (y2.mono a1.size)
    have RA : RC w4 (w.heap.size + 1 + 1) := by
      have b0 : RC W0.drew (w.heap.size + 1 + 1) := ⟨_, rfl, R0.out⟩
      exact (b0.below y1).below y2
    have G4 : w.heap.size + 1 + 1 < w2.heap.size := Nat.lt_of_lt_of_le (show w.heap.size + 1 + 1 < W0.drew.heap.size from R0.out.lt) y1.size
    have F := Lib.hid (RA.fil 0 false (.slice A1 m1 c1) (.slice A2 m2 c2) (.slice A3 m3 c3))
    have E := Lib.hid (filC_below a2 (g := w.heap.size + 1 + 1) (by omega) 0 false (.slice A1 m1 c1) (.slice A2 m2 c2) (.slice A3 m3 c3))
    have Q1 := Lib.hid ((q1.fil G4 0 false (.slice A1 m1 c1) (.slice A2 m2 c2) (.slice A3 m3 c3)).low (show w.heap.size ≤ w2.heap.size by omega))
    have Q2 := Lib.hid ((q2.fil G4 0 false (.slice A1 m1 c1) (.slice A2 m2 c2) (.slice A3 m3 c3)).low (show w.heap.size ≤ w2.heap.size by omega))
    have Q3 := Lib.hid ((q3.fil G4 0 false (.slice A1 m1 c1) (.slice A2 m2 c2) (.slice A3 m3 c3)).low (show w.heap.size ≤ w2.heap.size by omega))
    clear hH SS0 KIR GR a0 a1 a2 RA R0 L0 y1 y2 hl G4 q1 q2 q3 p0 f0 p1 f1 p2 f2 p3 f3 p4 f4
    go_wp2
    exact bodyPost_ret (v := .agg #[.int .i64 0, .bool false, .slice A1 m1 c1, .slice A2 m2 c2, .slice A3 m3 c3]) (res1C rfl F.out rfl) rfl (KJ.out _ _ ⟨_, _, _, _, _, _, _, _, _, rfl, Q1.out, Q2.out, Q3.out, E.out⟩)
  · have KJ : Hid (∀ (e : Ending) (w' : World), GivesK w 0 true (sf nm 5 l) [] [] e w' → GivesQ w k s nm ty l e w') := fun e w' => (KE.out _ _ _).2.2.1 hk
    subst hk
    have KIR : Hid (∀ W : World, (((W.cell? ⟨w.heap.size, 0, none⟩ = some (.string s) ∧ W.cell? ⟨w.heap.size, 1, none⟩ = some (.slice (some ⟨b0, o0, none⟩) n c)) ∧ (W.cell? ⟨w.heap.size + 1, 0, none⟩ = some (.string nm) ∧ W.cell? ⟨w.heap.size + 1, 1, none⟩ = some (.int .i64 ty)) ∧ W.cell? ⟨w.heap.size + 1 + 1 + 1, 2, none⟩ = some (.func (.func 67) #[] #[])) ∧ RC W (w.heap.size + 1 + 1)) ∧ Svz w W → Calls Try.prog 14 #[.agg #[.string s, .slice (some ⟨b0, o0, none⟩) n c], .agg #[.string nm, .int .i64 ty]] W fun e w' => e = .returned (.int .i64 2) ∧ Below W.heap.size W w') := fun W hW => KI.out W (HS.out.on hW.2)
    have GR : Hid (∀ W : World, (((W.cell? ⟨w.heap.size, 0, none⟩ = some (.string s) ∧ W.cell? ⟨w.heap.size, 1, none⟩ = some (.slice (some ⟨b0, o0, none⟩) n c)) ∧ (W.cell? ⟨w.heap.size + 1, 0, none⟩ = some (.string nm) ∧ W.cell? ⟨w.heap.size + 1, 1, none⟩ = some (.int .i64 ty)) ∧ W.cell? ⟨w.heap.size + 1 + 1 + 1, 2, none⟩ = some (.func (.func 67) #[] #[])) ∧ RC W (w.heap.size + 1 + 1)) ∧ Svz w W → Calls Try.prog 67 #[.agg #[.string s, .slice (some ⟨b0, o0, none⟩) n c], .agg #[.string nm, .int .i64 ty]] W (GivesK W 0 true (sf nm 5 l) [] [])) := fun W hW => G2.out W ⟨trivial, hW.2⟩
    have SS0 : (((W0.cell? ⟨w.heap.size, 0, none⟩ = some (.string s) ∧ W0.cell? ⟨w.heap.size, 1, none⟩ = some (.slice (some ⟨b0, o0, none⟩) n c)) ∧ (W0.cell? ⟨w.heap.size + 1, 0, none⟩ = some (.string nm) ∧ W0.cell? ⟨w.heap.size + 1, 1, none⟩ = some (.int .i64 ty)) ∧ W0.cell? ⟨w.heap.size + 1 + 1 + 1, 2, none⟩ = some (.func (.func 67) #[] #[])) ∧ RC W0 (w.heap.size + 1 + 1)) ∧ Svz w W0 := ⟨⟨⟨X0.out, Y0.out, N0.out.cell 2⟩, ⟨_, rfl, R0.out⟩⟩, L0.out⟩
    clear X0 Y0 N0 KI G0 G1 G2 G3 G4 G5 KE
    go_region_held3 (fun w' => (((w'.cell? ⟨w.heap.size, 0, none⟩ = some (.string s) ∧ w'.cell? ⟨w.heap.size, 1, none⟩ = some (.slice (some ⟨b0, o0, none⟩) n c)) ∧ (w'.cell? ⟨w.heap.size + 1, 0, none⟩ = some (.string nm) ∧ w'.cell? ⟨w.heap.size + 1, 1, none⟩ = some (.int .i64 ty)) ∧ w'.cell? ⟨w.heap.size + 1 + 1 + 1, 2, none⟩ = some (.func (.func 67) #[] #[])) ∧ RC w' (w.heap.size + 1 + 1)) ∧ Svz w w')
      (first | with_reducible exact keptK_fil (w1 := w4) (by assumption) n1 n2 n4 n3 _ _ _ _ _ | with_reducible exact SS0 | with_reducible assumption | with_reducible exact keptK (by assumption) hl | with_reducible exact keptK_draw (by assumption) | fail)
      (first
        | (go_at_call 14; (with_reducible refine (KIR.out _ (by assumption)).mono ?_); rintro e w2 ⟨rfl, hl⟩; have y1 := hl)
        | (go_at_call 67; (with_reducible refine (GR.out _ (by assumption)).mono ?_); rintro e w4 ⟨A1, m1, c1, A2, m2, c2, A3, m3, c3, rfl, q1, q2, q3, hl⟩; have y2 := hl; have HR := (keptK (by assumption) hl).1.2; have p0 := HR.cell 0 (by decide); have f0 := HR.free 0; have p1 := HR.cell 1 (by decide); have f1 := HR.free 1; have p2 := HR.cell 2 (by decide); have f2 := HR.free 2; have p3 := HR.cell 3 (by decide); have f3 := HR.free 3; have p4 := HR.cell 4 (by decide); have f4 := HR.free 4; clear HR)
        | fail)
    rename_i hH
    have a0 : Below w.heap.size w W0.drew := L0.out.drew
    have a1 := a0.trans (y1.mono a0.size)
    have a2 := a1.trans (y2.mono a1.size)
    have RA : RC w4 (w.heap.size + 1 + 1) := by
      have b0 : RC W0.drew (w.heap.size + 1 + 1) := ⟨_, rfl, R0.out⟩
      exact (b0.below y1).below y2
    have G4 : w.heap.size + 1 + 1 < w2.heap.size := Nat.lt_of_lt_of_le (show w.heap.size + 1 + 1 < W0.drew.heap.size from R0.out.lt) y1.size
    have F := Lib.hid (RA.fil 0 true (.slice A1 m1 c1) (.slice A2 m2 c2) (.slice A3 m3 c3))
    have E := Lib.hid (filC_below a2 (g := w.heap.size + 1 + 1) (by omega) 0 true (.slice A1 m1 c1) (.slice A2 m2 c2) (.slice A3 m3 c3))
    have Q1 := Lib.hid ((q1.fil G4 0 true (.slice A1 m1 c1) (.slice A2 m2 c2) (.slice A3 m3 c3)).low (show w.heap.size ≤ w2.heap.size by omega))
    have Q2 := Lib.hid ((q2.fil G4 0 true (.slice A1 m1 c1) (.slice A2 m2 c2) (.slice A3 m3 c3)).low (show w.heap.size ≤ w2.heap.size by omega))
    have Q3 := Lib.hid ((q3.fil G4 0 true (.slice A1 m1 c1) (.slice A2 m2 c2) (.slice A3 m3 c3)).low (show w.heap.size ≤ w2.heap.size by omega))
    clear hH SS0 KIR GR a0 a1 a2 RA R0 L0 y1 y2 hl G4 q1 q2 q3 p0 f0 p1 f1 p2 f2 p3 f3 p4 f4
    go_wp2
    exact bodyPost_ret (v := .agg #[.int .i64 0, .bool true, .slice A1 m1 c1, .slice A2 m2 c2, .slice A3 m3 c3]) (res1C rfl F.out rfl) rfl (KJ.out _ _ ⟨_, _, _, _, _, _, _, _, _, rfl, Q1.out, Q2.out, Q3.out, E.out⟩)
  · have KJ : Hid (∀ (e : Ending) (w' : World), GivesK w 0 true (sf nm ty l) [] [] e w' → GivesQ w k s nm ty l e w') := fun e w' => (KE.out _ _ _).2.2.2.1 hk
    subst hk
    have KIR : Hid (∀ W : World, (((W.cell? ⟨w.heap.size, 0, none⟩ = some (.string s) ∧ W.cell? ⟨w.heap.size, 1, none⟩ = some (.slice (some ⟨b0, o0, none⟩) n c)) ∧ (W.cell? ⟨w.heap.size + 1, 0, none⟩ = some (.string nm) ∧ W.cell? ⟨w.heap.size + 1, 1, none⟩ = some (.int .i64 ty)) ∧ W.cell? ⟨w.heap.size + 1 + 1 + 1, 3, none⟩ = some (.func (.func 68) #[] #[])) ∧ RC W (w.heap.size + 1 + 1)) ∧ Svz w W → Calls Try.prog 14 #[.agg #[.string s, .slice (some ⟨b0, o0, none⟩) n c], .agg #[.string nm, .int .i64 ty]] W fun e w' => e = .returned (.int .i64 3) ∧ Below W.heap.size W w') := fun W hW => KI.out W (HS.out.on hW.2)
    have GR : Hid (∀ W : World, (((W.cell? ⟨w.heap.size, 0, none⟩ = some (.string s) ∧ W.cell? ⟨w.heap.size, 1, none⟩ = some (.slice (some ⟨b0, o0, none⟩) n c)) ∧ (W.cell? ⟨w.heap.size + 1, 0, none⟩ = some (.string nm) ∧ W.cell? ⟨w.heap.size + 1, 1, none⟩ = some (.int .i64 ty)) ∧ W.cell? ⟨w.heap.size + 1 + 1 + 1, 3, none⟩ = some (.func (.func 68) #[] #[])) ∧ RC W (w.heap.size + 1 + 1)) ∧ Svz w W → Calls Try.prog 68 #[.agg #[.string s, .slice (some ⟨b0, o0, none⟩) n c], .agg #[.string nm, .int .i64 ty]] W (GivesK W 0 true (sf nm ty l) [] [])) := fun W hW => G3.out W ⟨trivial, hW.2⟩
    have SS0 : (((W0.cell? ⟨w.heap.size, 0, none⟩ = some (.string s) ∧ W0.cell? ⟨w.heap.size, 1, none⟩ = some (.slice (some ⟨b0, o0, none⟩) n c)) ∧ (W0.cell? ⟨w.heap.size + 1, 0, none⟩ = some (.string nm) ∧ W0.cell? ⟨w.heap.size + 1, 1, none⟩ = some (.int .i64 ty)) ∧ W0.cell? ⟨w.heap.size + 1 + 1 + 1, 3, none⟩ = some (.func (.func 68) #[] #[])) ∧ RC W0 (w.heap.size + 1 + 1)) ∧ Svz w W0 := ⟨⟨⟨X0.out, Y0.out, N0.out.cell 3⟩, ⟨_, rfl, R0.out⟩⟩, L0.out⟩
    clear X0 Y0 N0 KI G0 G1 G2 G3 G4 G5 KE
    go_region_held3 (fun w' => (((w'.cell? ⟨w.heap.size, 0, none⟩ = some (.string s) ∧ w'.cell? ⟨w.heap.size, 1, none⟩ = some (.slice (some ⟨b0, o0, none⟩) n c)) ∧ (w'.cell? ⟨w.heap.size + 1, 0, none⟩ = some (.string nm) ∧ w'.cell? ⟨w.heap.size + 1, 1, none⟩ = some (.int .i64 ty)) ∧ w'.cell? ⟨w.heap.size + 1 + 1 + 1, 3, none⟩ = some (.func (.func 68) #[] #[])) ∧ RC w' (w.heap.size + 1 + 1)) ∧ Svz w w')
      (first | with_reducible exact keptK_fil (w1 := w4) (by assumption) n1 n2 n4 n3 _ _ _ _ _ | with_reducible exact SS0 | with_reducible assumption | with_reducible exact keptK (by assumption) hl | with_reducible exact keptK_draw (by assumption) | fail)
      (first
        | (go_at_call 14; (with_reducible refine (KIR.out _ (by assumption)).mono ?_); rintro e w2 ⟨rfl, hl⟩; have y1 := hl)
        | (go_at_call 68; (with_reducible refine (GR.out _ (by assumption)).mono ?_); rintro e w4 ⟨A1, m1, c1, A2, m2, c2, A3, m3, c3, rfl, q1, q2, q3, hl⟩; have y2 := hl; have HR := (keptK (by assumption) hl).1.2; have p0 := HR.cell 0 (by decide); have f0 := HR.free 0; have p1 := HR.cell 1 (by decide); have f1 := HR.free 1; have p2 := HR.cell 2 (by decide); have f2 := HR.free 2; have p3 := HR.cell 3 (by decide); have f3 := HR.free 3; have p4 := HR.cell 4 (by decide); have f4 := HR.free 4; clear HR)
        | fail)
    rename_i hH
    have a0 : Below w.heap.size w W0.drew := L0.out.drew
    have a1 := a0.trans (y1.mono a0.size)
    have a2 := a1.trans (y2.mono a1.size)
    have RA : RC w4 (w.heap.size + 1 + 1) := by
      have b0 : RC W0.drew (w.heap.size + 1 + 1) := ⟨_, rfl, R0.out⟩
      exact (b0.below y1).below y2
    have G4 : w.heap.size + 1 + 1 < w2.heap.size := Nat.lt_of_lt_of_le (show w.heap.size + 1 + 1 < W0.drew.heap.size from R0.out.lt) y1.size
    have F := Lib.hid (RA.fil 0 true (.slice A1 m1 c1) (.slice A2 m2 c2) (.slice A3 m3 c3))
    have E := Lib.hid (filC_below a2 (g := w.heap.size + 1 + 1) (by omega) 0 true (.slice A1 m1 c1) (.slice A2 m2 c2) (.slice A3 m3 c3))
    have Q1 := Lib.hid ((q1.fil G4 0 true (.slice A1 m1 c1) (.slice A2 m2 c2) (.slice A3 m3 c3)).low (show w.heap.size ≤ w2.heap.size by omega))
    have Q2 := Lib.hid ((q2.fil G4 0 true (.slice A1 m1 c1) (.slice A2 m2 c2) (.slice A3 m3 c3)).low (show w.heap.size ≤ w2.heap.size by omega))
    have Q3 := Lib.hid ((q3.fil G4 0 true (.slice A1 m1 c1) (.slice A2 m2 c2) (.slice A3 m3 c3)).low (show w.heap.size ≤ w2.heap.size by omega))
    clear hH SS0 KIR GR a0 a1 a2 RA R0 L0 y1 y2 hl G4 q1 q2 q3 p0 f0 p1 f1 p2 f2 p3 f3 p4 f4
    go_wp2
    exact bodyPost_ret (v := .agg #[.int .i64 0, .bool true, .slice A1 m1 c1, .slice A2 m2 c2, .slice A3 m3 c3]) (res1C rfl F.out rfl) rfl (KJ.out _ _ ⟨_, _, _, _, _, _, _, _, _, rfl, Q1.out, Q2.out, Q3.out, E.out⟩)
  · have KJ : Hid (∀ (e : Ending) (w' : World), GivesK w 0 true [] [st l] [] e w' → GivesQ w k s nm ty l e w') := fun e w' => (KE.out _ _ _).2.2.2.2.1 hk
    subst hk
    have KIR : Hid (∀ W : World, (((W.cell? ⟨w.heap.size, 0, none⟩ = some (.string s) ∧ W.cell? ⟨w.heap.size, 1, none⟩ = some (.slice (some ⟨b0, o0, none⟩) n c)) ∧ (W.cell? ⟨w.heap.size + 1, 0, none⟩ = some (.string nm) ∧ W.cell? ⟨w.heap.size + 1, 1, none⟩ = some (.int .i64 ty)) ∧ W.cell? ⟨w.heap.size + 1 + 1 + 1, 4, none⟩ = some (.func (.func 69) #[] #[])) ∧ RC W (w.heap.size + 1 + 1)) ∧ Svz w W → Calls Try.prog 14 #[.agg #[.string s, .slice (some ⟨b0, o0, none⟩) n c], .agg #[.string nm, .int .i64 ty]] W fun e w' => e = .returned (.int .i64 4) ∧ Below W.heap.size W w') := fun W hW => KI.out W (HS.out.on hW.2)
    have GR : Hid (∀ W : World, (((W.cell? ⟨w.heap.size, 0, none⟩ = some (.string s) ∧ W.cell? ⟨w.heap.size, 1, none⟩ = some (.slice (some ⟨b0, o0, none⟩) n c)) ∧ (W.cell? ⟨w.heap.size + 1, 0, none⟩ = some (.string nm) ∧ W.cell? ⟨w.heap.size + 1, 1, none⟩ = some (.int .i64 ty)) ∧ W.cell? ⟨w.heap.size + 1 + 1 + 1, 4, none⟩ = some (.func (.func 69) #[] #[])) ∧ RC W (w.heap.size + 1 + 1)) ∧ Svz w W → Calls Try.prog 69 #[.agg #[.string s, .slice (some ⟨b0, o0, none⟩) n c], .agg #[.string nm, .int .i64 ty]] W (GivesK W 0 true [] [st l] [])) := fun W hW => G4.out W ⟨trivial, hW.2⟩
    have SS0 : (((W0.cell? ⟨w.heap.size, 0, none⟩ = some (.string s) ∧ W0.cell? ⟨w.heap.size, 1, none⟩ = some (.slice (some ⟨b0, o0, none⟩) n c)) ∧ (W0.cell? ⟨w.heap.size + 1, 0, none⟩ = some (.string nm) ∧ W0.cell? ⟨w.heap.size + 1, 1, none⟩ = some (.int .i64 ty)) ∧ W0.cell? ⟨w.heap.size + 1 + 1 + 1, 4, none⟩ = some (.func (.func 69) #[] #[])) ∧ RC W0 (w.heap.size + 1 + 1)) ∧ Svz w W0 := ⟨⟨⟨X0.out, Y0.out, N0.out.cell 4⟩, ⟨_, rfl, R0.out⟩⟩, L0.out⟩
    clear X0 Y0 N0 KI G0 G1 G2 G3 G4 G5 KE
    go_region_held3 (fun w' => (((w'.cell? ⟨w.heap.size, 0, none⟩ = some (.string s) ∧ w'.cell? ⟨w.heap.size, 1, none⟩ = some (.slice (some ⟨b0, o0, none⟩) n c)) ∧ (w'.cell? ⟨w.heap.size + 1, 0, none⟩ = some (.string nm) ∧ w'.cell? ⟨w.heap.size + 1, 1, none⟩ = some (.int .i64 ty)) ∧ w'.cell? ⟨w.heap.size + 1 + 1 + 1, 4, none⟩ = some (.func (.func 69) #[] #[])) ∧ RC w' (w.heap.size + 1 + 1)) ∧ Svz w w')
      (first | with_reducible exact keptK_fil (w1 := w4) (by assumption) n1 n2 n4 n3 _ _ _ _ _ | with_reducible exact SS0 | with_reducible assumption | with_reducible exact keptK (by assumption) hl | with_reducible exact keptK_draw (by assumption) | fail)
      (first
        | (go_at_call 14; (with_reducible refine (KIR.out _ (by assumption)).mono ?_); rintro e w2 ⟨rfl, hl⟩; have y1 := hl)
        | (go_at_call 69; (with_reducible refine (GR.out _ (by assumption)).mono ?_); rintro e w4 ⟨A1, m1, c1, A2, m2, c2, A3, m3, c3, rfl, q1, q2, q3, hl⟩; have y2 := hl; have HR := (keptK (by assumption) hl).1.2; have p0 := HR.cell 0 (by decide); have f0 := HR.free 0; have p1 := HR.cell 1 (by decide); have f1 := HR.free 1; have p2 := HR.cell 2 (by decide); have f2 := HR.free 2; have p3 := HR.cell 3 (by decide); have f3 := HR.free 3; have p4 := HR.cell 4 (by decide); have f4 := HR.free 4; clear HR)
        | fail)
    rename_i hH
    have a0 : Below w.heap.size w W0.drew := L0.out.drew
    have a1 := a0.trans (y1.mono a0.size)
    have a2 := a1.trans (y2.mono a1.size)
    have RA : RC w4 (w.heap.size + 1 + 1) := by
      have b0 : RC W0.drew (w.heap.size + 1 + 1) := ⟨_, rfl, R0.out⟩
      exact (b0.below y1).below y2
    have G4 : w.heap.size + 1 + 1 < w2.heap.size := Nat.lt_of_lt_of_le (show w.heap.size + 1 + 1 < W0.drew.heap.size from R0.out.lt) y1.size
    have F := Lib.hid (RA.fil 0 true (.slice A1 m1 c1) (.slice A2 m2 c2) (.slice A3 m3 c3))
    have E := Lib.hid (filC_below a2 (g := w.heap.size + 1 + 1) (by omega) 0 true (.slice A1 m1 c1) (.slice A2 m2 c2) (.slice A3 m3 c3))
    have Q1 := Lib.hid ((q1.fil G4 0 true (.slice A1 m1 c1) (.slice A2 m2 c2) (.slice A3 m3 c3)).low (show w.heap.size ≤ w2.heap.size by omega))
    have Q2 := Lib.hid ((q2.fil G4 0 true (.slice A1 m1 c1) (.slice A2 m2 c2) (.slice A3 m3 c3)).low (show w.heap.size ≤ w2.heap.size by omega))
    have Q3 := Lib.hid ((q3.fil G4 0 true (.slice A1 m1 c1) (.slice A2 m2 c2) (.slice A3 m3 c3)).low (show w.heap.size ≤ w2.heap.size by omega))
    clear hH SS0 KIR GR a0 a1 a2 RA R0 L0 y1 y2 hl G4 q1 q2 q3 p0 f0 p1 f1 p2 f2 p3 f3 p4 f4
    go_wp2
    exact bodyPost_ret (v := .agg #[.int .i64 0, .bool true, .slice A1 m1 c1, .slice A2 m2 c2, .slice A3 m3 c3]) (res1C rfl F.out rfl) rfl (KJ.out _ _ ⟨_, _, _, _, _, _, _, _, _, rfl, Q1.out, Q2.out, Q3.out, E.out⟩)
  · have KJ : Hid (∀ (e : Ending) (w' : World), GivesK w 3 true [] [st l] [] e w' → GivesQ w k s nm ty l e w') := fun e w' => (KE.out _ _ _).2.2.2.2.2 hk
    subst hk
    have KIR : Hid (∀ W : World, (((W.cell? ⟨w.heap.size, 0, none⟩ = some (.string s) ∧ W.cell? ⟨w.heap.size, 1, none⟩ = some (.slice (some ⟨b0, o0, none⟩) n c)) ∧ (W.cell? ⟨w.heap.size + 1, 0, none⟩ = some (.string nm) ∧ W.cell? ⟨w.heap.size + 1, 1, none⟩ = some (.int .i64 ty)) ∧ W.cell? ⟨w.heap.size + 1 + 1 + 1, 5, none⟩ = some (.func (.func 70) #[] #[])) ∧ RC W (w.heap.size + 1 + 1)) ∧ Svz w W → Calls Try.prog 14 #[.agg #[.string s, .slice (some ⟨b0, o0, none⟩) n c], .agg #[.string nm, .int .i64 ty]] W fun e w' => e = .returned (.int .i64 5) ∧ Below W.heap.size W w') := fun W hW => KI.out W (HS.out.on hW.2)
    have GR : Hid (∀ W : World, (((W.cell? ⟨w.heap.size, 0, none⟩ = some (.string s) ∧ W.cell? ⟨w.heap.size, 1, none⟩ = some (.slice (some ⟨b0, o0, none⟩) n c)) ∧ (W.cell? ⟨w.heap.size + 1, 0, none⟩ = some (.string nm) ∧ W.cell? ⟨w.heap.size + 1, 1, none⟩ = some (.int .i64 ty)) ∧ W.cell? ⟨w.heap.size + 1 + 1 + 1, 5, none⟩ = some (.func (.func 70) #[] #[])) ∧ RC W (w.heap.size + 1 + 1)) ∧ Svz w W → Calls Try.prog 70 #[.agg #[.string s, .slice (some ⟨b0, o0, none⟩) n c], .agg #[.string nm, .int .i64 ty]] W (GivesK W 3 true [] [st l] [])) := fun W hW => G5.out W ⟨trivial, hW.2⟩
    have SS0 : (((W0.cell? ⟨w.heap.size, 0, none⟩ = some (.string s) ∧ W0.cell? ⟨w.heap.size, 1, none⟩ = some (.slice (some ⟨b0, o0, none⟩) n c)) ∧ (W0.cell? ⟨w.heap.size + 1, 0, none⟩ = some (.string nm) ∧ W0.cell? ⟨w.heap.size + 1, 1, none⟩ = some (.int .i64 ty)) ∧ W0.cell? ⟨w.heap.size + 1 + 1 + 1, 5, none⟩ = some (.func (.func 70) #[] #[])) ∧ RC W0 (w.heap.size + 1 + 1)) ∧ Svz w W0 := ⟨⟨⟨X0.out, Y0.out, N0.out.cell 5⟩, ⟨_, rfl, R0.out⟩⟩, L0.out⟩
    clear X0 Y0 N0 KI G0 G1 G2 G3 G4 G5 KE
    go_region_held3 (fun w' => (((w'.cell? ⟨w.heap.size, 0, none⟩ = some (.string s) ∧ w'.cell? ⟨w.heap.size, 1, none⟩ = some (.slice (some ⟨b0, o0, none⟩) n c)) ∧ (w'.cell? ⟨w.heap.size + 1, 0, none⟩ = some (.string nm) ∧ w'.cell? ⟨w.heap.size + 1, 1, none⟩ = some (.int .i64 ty)) ∧ w'.cell? ⟨w.heap.size + 1 + 1 + 1, 5, none⟩ = some (.func (.func 70) #[] #[])) ∧ RC w' (w.heap.size + 1 + 1)) ∧ Svz w w')
      (first | with_reducible exact keptK_fil (w1 := w4) (by assumption) n1 n2 n4 n3 _ _ _ _ _ | with_reducible exact SS0 | with_reducible assumption | with_reducible exact keptK (by assumption) hl | with_reducible exact keptK_draw (by assumption) | fail)
      (first
        | (go_at_call 14; (with_reducible refine (KIR.out _ (by assumption)).mono ?_); rintro e w2 ⟨rfl, hl⟩; have y1 := hl)
        | (go_at_call 70; (with_reducible refine (GR.out _ (by assumption)).mono ?_); rintro e w4 ⟨A1, m1, c1, A2, m2, c2, A3, m3, c3, rfl, q1, q2, q3, hl⟩; have y2 := hl; have HR := (keptK (by assumption) hl).1.2; have p0 := HR.cell 0 (by decide); have f0 := HR.free 0; have p1 := HR.cell 1 (by decide); have f1 := HR.free 1; have p2 := HR.cell 2 (by decide); have f2 := HR.free 2; have p3 := HR.cell 3 (by decide); have f3 := HR.free 3; have p4 := HR.cell 4 (by decide); have f4 := HR.free 4; clear HR)
        | fail)
    rename_i hH
    have a0 : Below w.heap.size w W0.drew := L0.out.drew
    have a1 := a0.trans (y1.mono a0.size)
    have a2 := a1.trans (y2.mono a1.size)
    have RA : RC w4 (w.heap.size + 1 + 1) := by
      have b0 : RC W0.drew (w.heap.size + 1 + 1) := ⟨_, rfl, R0.out⟩
      exact (b0.below y1).below y2
    have G4 : w.heap.size + 1 + 1 < w2.heap.size := Nat.lt_of_lt_of_le (show w.heap.size + 1 + 1 < W0.drew.heap.size from R0.out.lt) y1.size
    have F := Lib.hid (RA.fil 3 true (.slice A1 m1 c1) (.slice A2 m2 c2) (.slice A3 m3 c3))
    have E := Lib.hid (filC_below a2 (g := w.heap.size + 1 + 1) (by omega) 3 true (.slice A1 m1 c1) (.slice A2 m2 c2) (.slice A3 m3 c3))
    have Q1 := Lib.hid ((q1.fil G4 3 true (.slice A1 m1 c1) (.slice A2 m2 c2) (.slice A3 m3 c3)).low (show w.heap.size ≤ w2.heap.size by omega))
    have Q2 := Lib.hid ((q2.fil G4 3 true (.slice A1 m1 c1) (.slice A2 m2 c2) (.slice A3 m3 c3)).low (show w.heap.size ≤ w2.heap.size by omega))
    have Q3 := Lib.hid ((q3.fil G4 3 true (.slice A1 m1 c1) (.slice A2 m2 c2) (.slice A3 m3 c3)).low (show w.heap.size ≤ w2.heap.size by omega))
    clear hH SS0 KIR GR a0 a1 a2 RA R0 L0 y1 y2 hl G4 q1 q2 q3 p0 f0 p1 f1 p2 f2 p3 f3 p4 f4
    go_wp2
    exact bodyPost_ret (v := .agg #[.int .i64 3, .bool true, .slice A1 m1 c1, .slice A2 m2 c2, .slice A3 m3 c3]) (res1C rfl F.out rfl) rfl (KJ.out _ _ ⟨_, _, _, _, _, _, _, _, _, rfl, Q1.out, Q2.out, Q3.out, E.out⟩)

end Go.Proofs.Ytmabbeefeipnaaa.ContI

/- What ReplyTo does in the program and in the model: a reply with new slices of the same records. Condition: fewer than 400000001 records in each section. -/
namespace Go.Proofs.Ytmabbeefeipnaaa.RepM
open Go.RowKit Go.Proofs.Ytmabbeefeipnaaa.Mem Go.Proofs.Ytmabbeefeipnaaa.MemR Go.Proofs.Ytmabbeefeipnaaa.BoxR Go.Proofs.Ytmabbeefeipnaaa.MemM Go.Proofs.Ytmabbeefeipnaaa.CpyR Go.Proofs.Ytmabbeefeipnaaa.ResM

/-- The head of a reply. -/
def rph (h : Hd) (code : Int) (au : Bool) : Hd := ⟨h.id, true, au, false, h.wa, false, code, h.qn, h.qt⟩
/-- The box g holds a message. A def, so that no step of a walk opens it. -/
def RB (w : World) (g : Nat) : Prop := ∃ cs : List Value, cs.length = 12 ∧ Bk w g 46 cs
/-- What a cell of the box holds. -/
def cv (w : World) (g j : Nat) : Value := (w.cell? ⟨g, j, none⟩).getD undef
theorem RB.below {w w' : World} {g : Nat} (k : RB w g) (hb : Below w.heap.size w w') : RB w' g := by
  obtain ⟨cs, hc, k⟩ := k
  exact ⟨cs, hc, k.below hb k.lt⟩
theorem RB.cell {w : World} {g : Nat} (k : RB w g) (j : Nat) (hj : j < 12) : w.cell? ⟨g, j, none⟩ = some (cv w g j) := by
  obtain ⟨cs, hc, k⟩ := k
  unfold cv
  rw [k.cell, List.getElem?_eq_getElem (show j < cs.length by omega)]
  rfl
theorem RB.free {w : World} {g : Nat} (k : RB w g) (j : Nat) : w.frozen? ⟨g, j, none⟩ = false := by
  obtain ⟨cs, hc, k⟩ := k
  exact k.free j
theorem twelve {cs : List Value} (h : cs.length = 12) : ∃ a0 a1 a2 a3 a4 a5 a6 a7 a8 a9 a10 a11 : Value, cs = [a0, a1, a2, a3, a4, a5, a6, a7, a8, a9, a10, a11] := by
  match cs, h with
  | [a0, a1, a2, a3, a4, a5, a6, a7, a8, a9, a10, a11], _ => exact ⟨a0, a1, a2, a3, a4, a5, a6, a7, a8, a9, a10, a11, rfl⟩
theorem RB.fil {w : World} {g : Nat} (k : RB w g) (h : Hd) (x y z : Value) : Bk (filM w g h x y z) g 46 (mc h x y z) := by
  obtain ⟨cs, hc, k⟩ := k
  obtain ⟨a0, a1, a2, a3, a4, a5, a6, a7, a8, a9, a10, a11, rfl⟩ := twelve hc
  exact ((((((((((((k.set 0 (.int .i64 h.id)).set 1 (.bool h.rp)).set 2 (.bool h.au)).set 3 (.bool h.ct)).set 4 (.bool h.wa)).set 5 (.bool h.ca)).set 6 (.int .i64 h.code)).set 7 (.string h.qn)).set 8 (.int .i64 h.qt)).set 9 (x)).set 10 (y)).set 11 (z))
theorem keptR {w w1 w2 : World} {h : Hd} (k : (w1.cell? ⟨w.heap.size, 0, none⟩ = some (.int .i64 h.id) ∧ w1.cell? ⟨w.heap.size, 4, none⟩ = some (.bool h.wa) ∧ w1.cell? ⟨w.heap.size, 7, none⟩ = some (.string h.qn) ∧ w1.cell? ⟨w.heap.size, 8, none⟩ = some (.int .i64 h.qt)) ∧ RB w1 (w.heap.size + 1) ∧ Sv w w1) (hl : Below w1.heap.size w1 w2) : (w2.cell? ⟨w.heap.size, 0, none⟩ = some (.int .i64 h.id) ∧ w2.cell? ⟨w.heap.size, 4, none⟩ = some (.bool h.wa) ∧ w2.cell? ⟨w.heap.size, 7, none⟩ = some (.string h.qn) ∧ w2.cell? ⟨w.heap.size, 8, none⟩ = some (.int .i64 h.qt)) ∧ RB w2 (w.heap.size + 1) ∧ Sv w w2 := by
  have a : w.heap.size < w1.heap.size := World.block_lt_of_cell? _ _ k.1.1
  exact ⟨⟨(hl.cell (p := ⟨w.heap.size, 0, none⟩) a).trans k.1.1, (hl.cell (p := ⟨w.heap.size, 4, none⟩) a).trans k.1.2.1, (hl.cell (p := ⟨w.heap.size, 7, none⟩) a).trans k.1.2.2.1, (hl.cell (p := ⟨w.heap.size, 8, none⟩) a).trans k.1.2.2.2⟩, k.2.1.below hl, k.2.2.trans (hl.mono k.2.2.size)⟩
theorem keptR_draw {w w1 : World} {h : Hd} (k : (w1.cell? ⟨w.heap.size, 0, none⟩ = some (.int .i64 h.id) ∧ w1.cell? ⟨w.heap.size, 4, none⟩ = some (.bool h.wa) ∧ w1.cell? ⟨w.heap.size, 7, none⟩ = some (.string h.qn) ∧ w1.cell? ⟨w.heap.size, 8, none⟩ = some (.int .i64 h.qt)) ∧ RB w1 (w.heap.size + 1) ∧ Sv w w1) : (w1.drew.cell? ⟨w.heap.size, 0, none⟩ = some (.int .i64 h.id) ∧ w1.drew.cell? ⟨w.heap.size, 4, none⟩ = some (.bool h.wa) ∧ w1.drew.cell? ⟨w.heap.size, 7, none⟩ = some (.string h.qn) ∧ w1.drew.cell? ⟨w.heap.size, 8, none⟩ = some (.int .i64 h.qt)) ∧ RB w1.drew (w.heap.size + 1) ∧ Sv w w1.drew := keptR k ((Below.refl _ _).drew)
theorem RB.put {w : World} {g : Nat} (k : RB w g) (j : Nat) (v : Value) : RB (w.setCell ⟨g, j, none⟩ v) g := by
  obtain ⟨cs, hc, k⟩ := k
  exact ⟨cs.set j v, by rw [List.length_set]; exact hc, k.set j v⟩
theorem keptR_put {w w1 : World} {h : Hd} (k : (w1.cell? ⟨w.heap.size, 0, none⟩ = some (.int .i64 h.id) ∧ w1.cell? ⟨w.heap.size, 4, none⟩ = some (.bool h.wa) ∧ w1.cell? ⟨w.heap.size, 7, none⟩ = some (.string h.qn) ∧ w1.cell? ⟨w.heap.size, 8, none⟩ = some (.int .i64 h.qt)) ∧ RB w1 (w.heap.size + 1) ∧ Sv w w1) (j : Nat) (v : Value) : ((w1.setCell ⟨w.heap.size + 1, j, none⟩ v).cell? ⟨w.heap.size, 0, none⟩ = some (.int .i64 h.id) ∧ (w1.setCell ⟨w.heap.size + 1, j, none⟩ v).cell? ⟨w.heap.size, 4, none⟩ = some (.bool h.wa) ∧ (w1.setCell ⟨w.heap.size + 1, j, none⟩ v).cell? ⟨w.heap.size, 7, none⟩ = some (.string h.qn) ∧ (w1.setCell ⟨w.heap.size + 1, j, none⟩ v).cell? ⟨w.heap.size, 8, none⟩ = some (.int .i64 h.qt)) ∧ RB (w1.setCell ⟨w.heap.size + 1, j, none⟩ v) (w.heap.size + 1) ∧ Sv w (w1.setCell ⟨w.heap.size + 1, j, none⟩ v) := by
  have e : ∀ i, (w1.setCell ⟨w.heap.size + 1, j, none⟩ v).cell? ⟨w.heap.size, i, none⟩ = w1.cell? ⟨w.heap.size, i, none⟩ := fun i =>
    ((Below.refl (w.heap.size + 1) w1).setCell (p := ⟨w.heap.size + 1, j, none⟩) (Nat.le_refl _) v).cell (p := ⟨w.heap.size, i, none⟩) (Nat.lt_succ_self _)
  exact ⟨⟨(e 0).trans k.1.1, (e 4).trans k.1.2.1, (e 7).trans k.1.2.2.1, (e 8).trans k.1.2.2.2⟩, k.2.1.put j v, Below.setCell k.2.2 (p := ⟨w.heap.size + 1, j, none⟩) (Nat.le_succ _) v⟩
theorem keptR_fil {w w1 : World} {h : Hd} (k : (w1.cell? ⟨w.heap.size, 0, none⟩ = some (.int .i64 h.id) ∧ w1.cell? ⟨w.heap.size, 4, none⟩ = some (.bool h.wa) ∧ w1.cell? ⟨w.heap.size, 7, none⟩ = some (.string h.qn) ∧ w1.cell? ⟨w.heap.size, 8, none⟩ = some (.int .i64 h.qt)) ∧ RB w1 (w.heap.size + 1) ∧ Sv w w1) (v0 v1 v2 v3 v4 v5 v6 v7 v8 v9 v10 v11 : Value) : (((((((((((((w1.setCell ⟨w.heap.size + 1, 0, none⟩ v0).setCell ⟨w.heap.size + 1, 1, none⟩ v1).setCell ⟨w.heap.size + 1, 2, none⟩ v2).setCell ⟨w.heap.size + 1, 3, none⟩ v3).setCell ⟨w.heap.size + 1, 4, none⟩ v4).setCell ⟨w.heap.size + 1, 5, none⟩ v5).setCell ⟨w.heap.size + 1, 6, none⟩ v6).setCell ⟨w.heap.size + 1, 7, none⟩ v7).setCell ⟨w.heap.size + 1, 8, none⟩ v8).setCell ⟨w.heap.size + 1, 9, none⟩ v9).setCell ⟨w.heap.size + 1, 10, none⟩ v10).setCell ⟨w.heap.size + 1, 11, none⟩ v11).cell? ⟨w.heap.size, 0, none⟩ = some (.int .i64 h.id) ∧ ((((((((((((w1.setCell ⟨w.heap.size + 1, 0, none⟩ v0).setCell ⟨w.heap.size + 1, 1, none⟩ v1).setCell ⟨w.heap.size + 1, 2, none⟩ v2).setCell ⟨w.heap.size + 1, 3, none⟩ v3).setCell ⟨w.heap.size + 1, 4, none⟩ v4).setCell ⟨w.heap.size + 1, 5, none⟩ v5).setCell ⟨w.heap.size + 1, 6, none⟩ v6).setCell ⟨w.heap.size + 1, 7, none⟩ v7).setCell ⟨w.heap.size + 1, 8, none⟩ v8).setCell ⟨w.heap.size + 1, 9, none⟩ v9).setCell ⟨w.heap.size + 1, 10, none⟩ v10).setCell ⟨w.heap.size + 1, 11, none⟩ v11).cell? ⟨w.heap.size, 4, none⟩ = some (.bool h.wa) ∧ ((((((((((((w1.setCell ⟨w.heap.size + 1, 0, none⟩ v0).setCell ⟨w.heap.size + 1, 1, none⟩ v1).setCell ⟨w.heap.size + 1, 2, none⟩ v2).setCell ⟨w.heap.size + 1, 3, none⟩ v3).setCell ⟨w.heap.size + 1, 4, none⟩ v4).setCell ⟨w.heap.size + 1, 5, none⟩ v5).setCell ⟨w.heap.size + 1, 6, none⟩ v6).setCell ⟨w.heap.size + 1, 7, none⟩ v7).setCell ⟨w.heap.size + 1, 8, none⟩ v8).setCell ⟨w.heap.size + 1, 9, none⟩ v9).setCell ⟨w.heap.size + 1, 10, none⟩ v10).setCell ⟨w.heap.size + 1, 11, none⟩ v11).cell? ⟨w.heap.size, 7, none⟩ = some (.string h.qn) ∧ ((((((((((((w1.setCell ⟨w.heap.size + 1, 0, none⟩ v0).setCell ⟨w.heap.size + 1, 1, none⟩ v1).setCell ⟨w.heap.size + 1, 2, none⟩ v2).setCell ⟨w.heap.size + 1, 3, none⟩ v3).setCell ⟨w.heap.size + 1, 4, none⟩ v4).setCell ⟨w.heap.size + 1, 5, none⟩ v5).setCell ⟨w.heap.size + 1, 6, none⟩ v6).setCell ⟨w.heap.size + 1, 7, none⟩ v7).setCell ⟨w.heap.size + 1, 8, none⟩ v8).setCell ⟨w.heap.size + 1, 9, none⟩ v9).setCell ⟨w.heap.size + 1, 10, none⟩ v10).setCell ⟨w.heap.size + 1, 11, none⟩ v11).cell? ⟨w.heap.size, 8, none⟩ = some (.int .i64 h.qt)) ∧ RB ((((((((((((w1.setCell ⟨w.heap.size + 1, 0, none⟩ v0).setCell ⟨w.heap.size + 1, 1, none⟩ v1).setCell ⟨w.heap.size + 1, 2, none⟩ v2).setCell ⟨w.heap.size + 1, 3, none⟩ v3).setCell ⟨w.heap.size + 1, 4, none⟩ v4).setCell ⟨w.heap.size + 1, 5, none⟩ v5).setCell ⟨w.heap.size + 1, 6, none⟩ v6).setCell ⟨w.heap.size + 1, 7, none⟩ v7).setCell ⟨w.heap.size + 1, 8, none⟩ v8).setCell ⟨w.heap.size + 1, 9, none⟩ v9).setCell ⟨w.heap.size + 1, 10, none⟩ v10).setCell ⟨w.heap.size + 1, 11, none⟩ v11) (w.heap.size + 1) ∧ Sv w ((((((((((((w1.setCell ⟨w.heap.size + 1, 0, none⟩ v0).setCell ⟨w.heap.size + 1, 1, none⟩ v1).setCell ⟨w.heap.size + 1, 2, none⟩ v2).setCell ⟨w.heap.size + 1, 3, none⟩ v3).setCell ⟨w.heap.size + 1, 4, none⟩ v4).setCell ⟨w.heap.size + 1, 5, none⟩ v5).setCell ⟨w.heap.size + 1, 6, none⟩ v6).setCell ⟨w.heap.size + 1, 7, none⟩ v7).setCell ⟨w.heap.size + 1, 8, none⟩ v8).setCell ⟨w.heap.size + 1, 9, none⟩ v9).setCell ⟨w.heap.size + 1, 10, none⟩ v10).setCell ⟨w.heap.size + 1, 11, none⟩ v11) :=
  (keptR_put (keptR_put (keptR_put (keptR_put (keptR_put (keptR_put (keptR_put (keptR_put (keptR_put (keptR_put (keptR_put (keptR_put k 0 v0) 1 v1) 2 v2) 3 v3) 4 v4) 5 v5) 6 v6) 7 v7) 8 v8) 9 v9) 10 v10) 11 v11)

set_option maxRecDepth 100000 in
set_option maxHeartbeats 8000000 in
theorem impl (h : Hd) (A1 A2 A3 : Option Addr) (n1 c1 n2 c2 n3 c3 : Nat) (code : Int) (au : Bool) (b1 o1 m1 d1 : Nat) (l1 : List Rec) (b2 o2 m2 d2 : Nat) (l2 : List Rec) (b3 o3 m3 d3 : Nat) (l3 : List Rec) (w : World)
    (s1 : Sr w w.heap.size (some ⟨b1, o1, none⟩) m1 l1) (z1 : m1 ≤ 400000000) (s2 : Sr w w.heap.size (some ⟨b2, o2, none⟩) m2 l2) (z2 : m2 ≤ 400000000) (s3 : Sr w w.heap.size (some ⟨b3, o3, none⟩) m3 l3) (z3 : m3 ≤ 400000000) :
    Calls Try.prog 53 #[.agg #[.int .i64 h.id, .bool h.rp, .bool h.au, .bool h.ct, .bool h.wa, .bool h.ca, .int .i64 h.code, .string h.qn, .int .i64 h.qt, .slice A1 n1 c1, .slice A2 n2 c2, .slice A3 n3 c3], .int .i64 code, .bool au, .slice (some ⟨b1, o1, none⟩) m1 d1, .slice (some ⟨b2, o2, none⟩) m2 d2, .slice (some ⟨b3, o3, none⟩) m3 d3] w (GivesM w (rph h code au) m1 m2 m3 l1 l2 l3) := by
  have C1 : Hid (∀ W : World, ((W.cell? ⟨w.heap.size, 0, none⟩ = some (.int .i64 h.id) ∧ W.cell? ⟨w.heap.size, 4, none⟩ = some (.bool h.wa) ∧ W.cell? ⟨w.heap.size, 7, none⟩ = some (.string h.qn) ∧ W.cell? ⟨w.heap.size, 8, none⟩ = some (.int .i64 h.qt)) ∧ RB W (w.heap.size + 1) ∧ Sv w W) → Calls Try.prog 74 #[.slice (some ⟨b1, o1, none⟩) m1 d1] W (GivesC W m1 l1)) := fun W hW => copyI b1 o1 m1 d1 l1 W (s1.on hW.2.2) z1
  have C2 : Hid (∀ W : World, ((W.cell? ⟨w.heap.size, 0, none⟩ = some (.int .i64 h.id) ∧ W.cell? ⟨w.heap.size, 4, none⟩ = some (.bool h.wa) ∧ W.cell? ⟨w.heap.size, 7, none⟩ = some (.string h.qn) ∧ W.cell? ⟨w.heap.size, 8, none⟩ = some (.int .i64 h.qt)) ∧ RB W (w.heap.size + 1) ∧ Sv w W) → Calls Try.prog 74 #[.slice (some ⟨b2, o2, none⟩) m2 d2] W (GivesC W m2 l2)) := fun W hW => copyI b2 o2 m2 d2 l2 W (s2.on hW.2.2) z2
  have C3 : Hid (∀ W : World, ((W.cell? ⟨w.heap.size, 0, none⟩ = some (.int .i64 h.id) ∧ W.cell? ⟨w.heap.size, 4, none⟩ = some (.bool h.wa) ∧ W.cell? ⟨w.heap.size, 7, none⟩ = some (.string h.qn) ∧ W.cell? ⟨w.heap.size, 8, none⟩ = some (.int .i64 h.qt)) ∧ RB W (w.heap.size + 1) ∧ Sv w W) → Calls Try.prog 74 #[.slice (some ⟨b3, o3, none⟩) m3 d3] W (GivesC W m3 l3)) := fun W hW => copyI b3 o3 m3 d3 l3 W (s3.on hW.2.2) z3
  have X0 := Lib.hid ((mx_new w 46 h (.slice A1 n1 c1) (.slice A2 n2 c2) (.slice A3 n3 c3)).alloc (.cells #[.int .i64 0, .bool false, .bool false, .bool false, .bool false, .bool false, .int .i64 0, .string ⟨#[]⟩, .int .i64 0, .slice none 0 0, .slice none 0 0, .slice none 0 0] 46))
  have R0 := Lib.hid (at2 (w := w) (a := .cells #[.int .i64 h.id, .bool h.rp, .bool h.au, .bool h.ct, .bool h.wa, .bool h.ca, .int .i64 h.code, .string h.qn, .int .i64 h.qt, .slice A1 n1 c1, .slice A2 n2 c2, .slice A3 n3 c3] 46) (cs := #[.int .i64 0, .bool false, .bool false, .bool false, .bool false, .bool false, .int .i64 0, .string ⟨#[]⟩, .int .i64 0, .slice none 0 0, .slice none 0 0, .slice none 0 0]) (t := 46))
  have L0 := Lib.hid (((Below.refl w.heap.size w).alloc (Nat.le_refl _) (.cells #[.int .i64 h.id, .bool h.rp, .bool h.au, .bool h.ct, .bool h.wa, .bool h.ca, .int .i64 h.code, .string h.qn, .int .i64 h.qt, .slice A1 n1 c1, .slice A2 n2 c2, .slice A3 n3 c3] 46)).alloc (by simp) (.cells #[.int .i64 0, .bool false, .bool false, .bool false, .bool false, .bool false, .int .i64 0, .string ⟨#[]⟩, .int .i64 0, .slice none 0 0, .slice none 0 0, .slice none 0 0] 46))
  have S0 : (((w.alloc (.cells #[.int .i64 h.id, .bool h.rp, .bool h.au, .bool h.ct, .bool h.wa, .bool h.ca, .int .i64 h.code, .string h.qn, .int .i64 h.qt, .slice A1 n1 c1, .slice A2 n2 c2, .slice A3 n3 c3] 46)).alloc (.cells #[.int .i64 0, .bool false, .bool false, .bool false, .bool false, .bool false, .int .i64 0, .string ⟨#[]⟩, .int .i64 0, .slice none 0 0, .slice none 0 0, .slice none 0 0] 46)).cell? ⟨w.heap.size, 0, none⟩ = some (.int .i64 h.id) ∧ ((w.alloc (.cells #[.int .i64 h.id, .bool h.rp, .bool h.au, .bool h.ct, .bool h.wa, .bool h.ca, .int .i64 h.code, .string h.qn, .int .i64 h.qt, .slice A1 n1 c1, .slice A2 n2 c2, .slice A3 n3 c3] 46)).alloc (.cells #[.int .i64 0, .bool false, .bool false, .bool false, .bool false, .bool false, .int .i64 0, .string ⟨#[]⟩, .int .i64 0, .slice none 0 0, .slice none 0 0, .slice none 0 0] 46)).cell? ⟨w.heap.size, 4, none⟩ = some (.bool h.wa) ∧ ((w.alloc (.cells #[.int .i64 h.id, .bool h.rp, .bool h.au, .bool h.ct, .bool h.wa, .bool h.ca, .int .i64 h.code, .string h.qn, .int .i64 h.qt, .slice A1 n1 c1, .slice A2 n2 c2, .slice A3 n3 c3] 46)).alloc (.cells #[.int .i64 0, .bool false, .bool false, .bool false, .bool false, .bool false, .int .i64 0, .string ⟨#[]⟩, .int .i64 0, .slice none 0 0, .slice none 0 0, .slice none 0 0] 46)).cell? ⟨w.heap.size, 7, none⟩ = some (.string h.qn) ∧ ((w.alloc (.cells #[.int .i64 h.id, .bool h.rp, .bool h.au, .bool h.ct, .bool h.wa, .bool h.ca, .int .i64 h.code, .string h.qn, .int .i64 h.qt, .slice A1 n1 c1, .slice A2 n2 c2, .slice A3 n3 c3] 46)).alloc (.cells #[.int .i64 0, .bool false, .bool false, .bool false, .bool false, .bool false, .int .i64 0, .string ⟨#[]⟩, .int .i64 0, .slice none 0 0, .slice none 0 0, .slice none 0 0] 46)).cell? ⟨w.heap.size, 8, none⟩ = some (.int .i64 h.qt)) ∧ RB ((w.alloc (.cells #[.int .i64 h.id, .bool h.rp, .bool h.au, .bool h.ct, .bool h.wa, .bool h.ca, .int .i64 h.code, .string h.qn, .int .i64 h.qt, .slice A1 n1 c1, .slice A2 n2 c2, .slice A3 n3 c3] 46)).alloc (.cells #[.int .i64 0, .bool false, .bool false, .bool false, .bool false, .bool false, .int .i64 0, .string ⟨#[]⟩, .int .i64 0, .slice none 0 0, .slice none 0 0, .slice none 0 0] 46)) (w.heap.size + 1) ∧ Sv w ((w.alloc (.cells #[.int .i64 h.id, .bool h.rp, .bool h.au, .bool h.ct, .bool h.wa, .bool h.ca, .int .i64 h.code, .string h.qn, .int .i64 h.qt, .slice A1 n1 c1, .slice A2 n2 c2, .slice A3 n3 c3] 46)).alloc (.cells #[.int .i64 0, .bool false, .bool false, .bool false, .bool false, .bool false, .int .i64 0, .string ⟨#[]⟩, .int .i64 0, .slice none 0 0, .slice none 0 0, .slice none 0 0] 46)) :=
    ⟨⟨X0.out.1, X0.out.2.2.2.2.1, X0.out.2.2.2.2.2.2.2.1, X0.out.2.2.2.2.2.2.2.2.1⟩, ⟨_, rfl, R0.out⟩, L0.out⟩
  clear s1 s2 s3
  generalize hW0 : ((w.alloc (.cells #[.int .i64 h.id, .bool h.rp, .bool h.au, .bool h.ct, .bool h.wa, .bool h.ca, .int .i64 h.code, .string h.qn, .int .i64 h.qt, .slice A1 n1 c1, .slice A2 n2 c2, .slice A3 n3 c3] 46)).alloc (.cells #[.int .i64 0, .bool false, .bool false, .bool false, .bool false, .bool false, .int .i64 0, .string ⟨#[]⟩, .int .i64 0, .slice none 0 0, .slice none 0 0, .slice none 0 0] 46)) = W0 at S0 R0 X0 L0
  go_enter Try.func53, Try.ntmps53
  go_wp2
  go_region_held3 (fun w' => (w'.cell? ⟨w.heap.size, 0, none⟩ = some (.int .i64 h.id) ∧ w'.cell? ⟨w.heap.size, 4, none⟩ = some (.bool h.wa) ∧ w'.cell? ⟨w.heap.size, 7, none⟩ = some (.string h.qn) ∧ w'.cell? ⟨w.heap.size, 8, none⟩ = some (.int .i64 h.qt)) ∧ RB w' (w.heap.size + 1) ∧ Sv w w')
    (first | with_reducible exact keptR_fil (w1 := w13) (by assumption) _ _ _ _ _ _ _ _ _ _ _ _ | with_reducible exact S0 | with_reducible assumption | with_reducible exact keptR (by assumption) hl | with_reducible exact keptR_draw (by assumption) | fail)
    (first
      | (go_at_call 74; (with_reducible refine (C1.out _ (by assumption)).mono ?_); rintro e w11 ⟨g1, e1, r1, rfl, -, hg1, hb1, hl⟩; have y1 := hl)
      | (go_at_call 74; (with_reducible refine (C2.out _ (by assumption)).mono ?_); rintro e w12 ⟨g2, e2, r2, rfl, -, hg2, hb2, hl⟩; have y2 := hl)
      | (go_at_call 74; (with_reducible refine (C3.out _ (by assumption)).mono ?_); rintro e w13 ⟨g3, e3, r3, rfl, -, hg3, hb3, hl⟩; have y3 := hl; have HR := (keptR (h := h) (by assumption) hl).2.1; have p0 := HR.cell 0 (by decide); have f0 := HR.free 0; have p1 := HR.cell 1 (by decide); have f1 := HR.free 1; have p2 := HR.cell 2 (by decide); have f2 := HR.free 2; have p3 := HR.cell 3 (by decide); have f3 := HR.free 3; have p4 := HR.cell 4 (by decide); have f4 := HR.free 4; have p5 := HR.cell 5 (by decide); have f5 := HR.free 5; have p6 := HR.cell 6 (by decide); have f6 := HR.free 6; have p7 := HR.cell 7 (by decide); have f7 := HR.free 7; have p8 := HR.cell 8 (by decide); have f8 := HR.free 8; have p9 := HR.cell 9 (by decide); have f9 := HR.free 9; have p10 := HR.cell 10 (by decide); have f10 := HR.free 10; have p11 := HR.cell 11 (by decide); have f11 := HR.free 11; clear HR)
      | fail)
  rename_i hH
  have a0 : Below w.heap.size w W0.drew := L0.out.drew
  have a1 := a0.trans (y1.mono a0.size)
  have a2 := a1.trans (y2.mono a1.size)
  have a3 := a2.trans (y3.mono a2.size)
  have RA : Bk w13 (w.heap.size + 1) 46 (mc zh (.slice none 0 0) (.slice none 0 0) (.slice none 0 0)) := by
    have b0 : Bk W0.drew (w.heap.size + 1) 46 (mc zh (.slice none 0 0) (.slice none 0 0) (.slice none 0 0)) := R0.out
    have b1 := b0.below y1 b0.lt
    have b2 := b1.below y2 b1.lt
    exact b2.below y3 b2.lt
  have n1 : w.heap.size + 1 < g1 := Nat.lt_of_lt_of_le R0.out.lt hg1
  have n2 : g1 < g2 := Nat.lt_of_lt_of_le hb1.lt hg2
  have n3 : g2 < g3 := Nat.lt_of_lt_of_le hb2.lt hg3
  have B1 := hb1.below y2 hb1.lt
  have F := Lib.hid (filM_bk RA (rph h code au) (.slice (some ⟨g1, 0, none⟩) m1 e1) (.slice (some ⟨g2, 0, none⟩) m2 e2) (.slice (some ⟨g3, 0, none⟩) m3 e3))
  have E := Lib.hid (filM_below a3 (g := w.heap.size + 1) (by omega) (rph h code au) (.slice (some ⟨g1, 0, none⟩) m1 e1) (.slice (some ⟨g2, 0, none⟩) m2 e2) (.slice (some ⟨g3, 0, none⟩) m3 e3))
  have I1 := Lib.hid (filM_other (B1.below y3 B1.lt) (g := w.heap.size + 1) (by omega) (rph h code au) (.slice (some ⟨g1, 0, none⟩) m1 e1) (.slice (some ⟨g2, 0, none⟩) m2 e2) (.slice (some ⟨g3, 0, none⟩) m3 e3))
  have I2 := Lib.hid (filM_other (hb2.below y3 hb2.lt) (g := w.heap.size + 1) (by omega) (rph h code au) (.slice (some ⟨g1, 0, none⟩) m1 e1) (.slice (some ⟨g2, 0, none⟩) m2 e2) (.slice (some ⟨g3, 0, none⟩) m3 e3))
  have I3 := Lib.hid (filM_other hb3 (g := w.heap.size + 1) (by omega) (rph h code au) (.slice (some ⟨g1, 0, none⟩) m1 e1) (.slice (some ⟨g2, 0, none⟩) m2 e2) (.slice (some ⟨g3, 0, none⟩) m3 e3))
  clear hH S0 R0 X0 L0 C1 C2 C3 a0 a1 a2 a3 RA B1 hb1 hb2 hb3 hg1 hg2 hg3 y1 y2 y3 hl hW0 p0 f0 p1 f1 p2 f2 p3 f3 p4 f4 p5 f5 p6 f6 p7 f7 p8 f8 p9 f9 p10 f10 p11 f11
  go_wp2
  exact bodyPost_ret (v := .agg #[.int .i64 (rph h code au).id, .bool (rph h code au).rp, .bool (rph h code au).au, .bool (rph h code au).ct, .bool (rph h code au).wa, .bool (rph h code au).ca, .int .i64 (rph h code au).code, .string (rph h code au).qn, .int .i64 (rph h code au).qt, .slice (some ⟨g1, 0, none⟩) m1 e1, .slice (some ⟨g2, 0, none⟩) m2 e2, .slice (some ⟨g3, 0, none⟩) m3 e3]) (res1M rfl F.out rfl) rfl ⟨g1, e1, r1, g2, e2, r2, g3, e3, r3, rfl, I1.out, I2.out, I3.out, by omega, n2, n3, E.out⟩

set_option maxRecDepth 100000 in
set_option maxHeartbeats 8000000 in
theorem spec (h : Hd) (A1 A2 A3 : Option Addr) (n1 c1 n2 c2 n3 c3 : Nat) (code : Int) (au : Bool) (b1 o1 m1 d1 : Nat) (l1 : List Rec) (b2 o2 m2 d2 : Nat) (l2 : List Rec) (b3 o3 m3 d3 : Nat) (l3 : List Rec) (w : World)
    (s1 : Sr w w.heap.size (some ⟨b1, o1, none⟩) m1 l1) (z1 : m1 ≤ 400000000) (s2 : Sr w w.heap.size (some ⟨b2, o2, none⟩) m2 l2) (z2 : m2 ≤ 400000000) (s3 : Sr w w.heap.size (some ⟨b3, o3, none⟩) m3 l3) (z3 : m3 ≤ 400000000) :
    Calls Try.prog 51 #[.agg #[.int .i64 h.id, .bool h.rp, .bool h.au, .bool h.ct, .bool h.wa, .bool h.ca, .int .i64 h.code, .string h.qn, .int .i64 h.qt, .slice A1 n1 c1, .slice A2 n2 c2, .slice A3 n3 c3], .int .i64 code, .bool au, .slice (some ⟨b1, o1, none⟩) m1 d1, .slice (some ⟨b2, o2, none⟩) m2 d2, .slice (some ⟨b3, o3, none⟩) m3 d3] w (GivesM w (rph h code au) m1 m2 m3 l1 l2 l3) := by
  have C1 : Hid (∀ W : World, ((W.cell? ⟨w.heap.size, 0, none⟩ = some (.int .i64 h.id) ∧ W.cell? ⟨w.heap.size, 4, none⟩ = some (.bool h.wa) ∧ W.cell? ⟨w.heap.size, 7, none⟩ = some (.string h.qn) ∧ W.cell? ⟨w.heap.size, 8, none⟩ = some (.int .i64 h.qt)) ∧ RB W (w.heap.size + 1) ∧ Sv w W) → Calls Try.prog 72 #[.slice (some ⟨b1, o1, none⟩) m1 d1] W (GivesC W m1 l1)) := fun W hW => copyS b1 o1 m1 d1 l1 W (s1.on hW.2.2) z1
  have C2 : Hid (∀ W : World, ((W.cell? ⟨w.heap.size, 0, none⟩ = some (.int .i64 h.id) ∧ W.cell? ⟨w.heap.size, 4, none⟩ = some (.bool h.wa) ∧ W.cell? ⟨w.heap.size, 7, none⟩ = some (.string h.qn) ∧ W.cell? ⟨w.heap.size, 8, none⟩ = some (.int .i64 h.qt)) ∧ RB W (w.heap.size + 1) ∧ Sv w W) → Calls Try.prog 72 #[.slice (some ⟨b2, o2, none⟩) m2 d2] W (GivesC W m2 l2)) := fun W hW => copyS b2 o2 m2 d2 l2 W (s2.on hW.2.2) z2
  have C3 : Hid (∀ W : World, ((W.cell? ⟨w.heap.size, 0, none⟩ = some (.int .i64 h.id) ∧ W.cell? ⟨w.heap.size, 4, none⟩ = some (.bool h.wa) ∧ W.cell? ⟨w.heap.size, 7, none⟩ = some (.string h.qn) ∧ W.cell? ⟨w.heap.size, 8, none⟩ = some (.int .i64 h.qt)) ∧ RB W (w.heap.size + 1) ∧ Sv w W) → Calls Try.prog 72 #[.slice (some ⟨b3, o3, none⟩) m3 d3] W (GivesC W m3 l3)) := fun W hW => copyS b3 o3 m3 d3 l3 W (s3.on hW.2.2) z3
  have X0 := Lib.hid ((mx_new w 46 h (.slice A1 n1 c1) (.slice A2 n2 c2) (.slice A3 n3 c3)).alloc (.cells #[.int .i64 0, .bool false, .bool false, .bool false, .bool false, .bool false, .int .i64 0, .string ⟨#[]⟩, .int .i64 0, .slice none 0 0, .slice none 0 0, .slice none 0 0] 46))
  have R0 := Lib.hid (at2 (w := w) (a := .cells #[.int .i64 h.id, .bool h.rp, .bool h.au, .bool h.ct, .bool h.wa, .bool h.ca, .int .i64 h.code, .string h.qn, .int .i64 h.qt, .slice A1 n1 c1, .slice A2 n2 c2, .slice A3 n3 c3] 46) (cs := #[.int .i64 0, .bool false, .bool false, .bool false, .bool false, .bool false, .int .i64 0, .string ⟨#[]⟩, .int .i64 0, .slice none 0 0, .slice none 0 0, .slice none 0 0]) (t := 46))
  have L0 := Lib.hid (((Below.refl w.heap.size w).alloc (Nat.le_refl _) (.cells #[.int .i64 h.id, .bool h.rp, .bool h.au, .bool h.ct, .bool h.wa, .bool h.ca, .int .i64 h.code, .string h.qn, .int .i64 h.qt, .slice A1 n1 c1, .slice A2 n2 c2, .slice A3 n3 c3] 46)).alloc (by simp) (.cells #[.int .i64 0, .bool false, .bool false, .bool false, .bool false, .bool false, .int .i64 0, .string ⟨#[]⟩, .int .i64 0, .slice none 0 0, .slice none 0 0, .slice none 0 0] 46))
  have S0 : (((w.alloc (.cells #[.int .i64 h.id, .bool h.rp, .bool h.au, .bool h.ct, .bool h.wa, .bool h.ca, .int .i64 h.code, .string h.qn, .int .i64 h.qt, .slice A1 n1 c1, .slice A2 n2 c2, .slice A3 n3 c3] 46)).alloc (.cells #[.int .i64 0, .bool false, .bool false, .bool false, .bool false, .bool false, .int .i64 0, .string ⟨#[]⟩, .int .i64 0, .slice none 0 0, .slice none 0 0, .slice none 0 0] 46)).cell? ⟨w.heap.size, 0, none⟩ = some (.int .i64 h.id) ∧ ((w.alloc (.cells #[.int .i64 h.id, .bool h.rp, .bool h.au, .bool h.ct, .bool h.wa, .bool h.ca, .int .i64 h.code, .string h.qn, .int .i64 h.qt, .slice A1 n1 c1, .slice A2 n2 c2, .slice A3 n3 c3] 46)).alloc (.cells #[.int .i64 0, .bool false, .bool false, .bool false, .bool false, .bool false, .int .i64 0, .string ⟨#[]⟩, .int .i64 0, .slice none 0 0, .slice none 0 0, .slice none 0 0] 46)).cell? ⟨w.heap.size, 4, none⟩ = some (.bool h.wa) ∧ ((w.alloc (.cells #[.int .i64 h.id, .bool h.rp, .bool h.au, .bool h.ct, .bool h.wa, .bool h.ca, .int .i64 h.code, .string h.qn, .int .i64 h.qt, .slice A1 n1 c1, .slice A2 n2 c2, .slice A3 n3 c3] 46)).alloc (.cells #[.int .i64 0, .bool false, .bool false, .bool false, .bool false, .bool false, .int .i64 0, .string ⟨#[]⟩, .int .i64 0, .slice none 0 0, .slice none 0 0, .slice none 0 0] 46)).cell? ⟨w.heap.size, 7, none⟩ = some (.string h.qn) ∧ ((w.alloc (.cells #[.int .i64 h.id, .bool h.rp, .bool h.au, .bool h.ct, .bool h.wa, .bool h.ca, .int .i64 h.code, .string h.qn, .int .i64 h.qt, .slice A1 n1 c1, .slice A2 n2 c2, .slice A3 n3 c3] 46)).alloc (.cells #[.int .i64 0, .bool false, .bool false, .bool false, .bool false, .bool false, .int .i64 0, .string ⟨#[]⟩, .int .i64 0, .slice none 0 0, .slice none 0 0, .slice none 0 0] 46)).cell? ⟨w.heap.size, 8, none⟩ = some (.int .i64 h.qt)) ∧ RB ((w.alloc (.cells #[.int .i64 h.id, .bool h.rp, .bool h.au, .bool h.ct, .bool h.wa, .bool h.ca, .int .i64 h.code, .string h.qn, .int .i64 h.qt, .slice A1 n1 c1, .slice A2 n2 c2, .slice A3 n3 c3] 46)).alloc (.cells #[.int .i64 0, .bool false, .bool false, .bool false, .bool false, .bool false, .int .i64 0, .string ⟨#[]⟩, .int .i64 0, .slice none 0 0, .slice none 0 0, .slice none 0 0] 46)) (w.heap.size + 1) ∧ Sv w ((w.alloc (.cells #[.int .i64 h.id, .bool h.rp, .bool h.au, .bool h.ct, .bool h.wa, .bool h.ca, .int .i64 h.code, .string h.qn, .int .i64 h.qt, .slice A1 n1 c1, .slice A2 n2 c2, .slice A3 n3 c3] 46)).alloc (.cells #[.int .i64 0, .bool false, .bool false, .bool false, .bool false, .bool false, .int .i64 0, .string ⟨#[]⟩, .int .i64 0, .slice none 0 0, .slice none 0 0, .slice none 0 0] 46)) :=
    ⟨⟨X0.out.1, X0.out.2.2.2.2.1, X0.out.2.2.2.2.2.2.2.1, X0.out.2.2.2.2.2.2.2.2.1⟩, ⟨_, rfl, R0.out⟩, L0.out⟩
  clear s1 s2 s3
  generalize hW0 : ((w.alloc (.cells #[.int .i64 h.id, .bool h.rp, .bool h.au, .bool h.ct, .bool h.wa, .bool h.ca, .int .i64 h.code, .string h.qn, .int .i64 h.qt, .slice A1 n1 c1, .slice A2 n2 c2, .slice A3 n3 c3] 46)).alloc (.cells #[.int .i64 0, .bool false, .bool false, .bool false, .bool false, .bool false, .int .i64 0, .string ⟨#[]⟩, .int .i64 0, .slice none 0 0, .slice none 0 0, .slice none 0 0] 46)) = W0 at S0 R0 X0 L0
  go_enter Try.func51, Try.ntmps51
  go_wp2
  go_region_held3 (fun w' => (w'.cell? ⟨w.heap.size, 0, none⟩ = some (.int .i64 h.id) ∧ w'.cell? ⟨w.heap.size, 4, none⟩ = some (.bool h.wa) ∧ w'.cell? ⟨w.heap.size, 7, none⟩ = some (.string h.qn) ∧ w'.cell? ⟨w.heap.size, 8, none⟩ = some (.int .i64 h.qt)) ∧ RB w' (w.heap.size + 1) ∧ Sv w w')
    (first | with_reducible exact keptR_fil (w1 := w13) (by assumption) _ _ _ _ _ _ _ _ _ _ _ _ | with_reducible exact S0 | with_reducible assumption | with_reducible exact keptR (by assumption) hl | with_reducible exact keptR_draw (by assumption) | fail)
    (first
      | (go_at_call 72; (with_reducible refine (C1.out _ (by assumption)).mono ?_); rintro e w11 ⟨g1, e1, r1, rfl, -, hg1, hb1, hl⟩; have y1 := hl)
      | (go_at_call 72; (with_reducible refine (C2.out _ (by assumption)).mono ?_); rintro e w12 ⟨g2, e2, r2, rfl, -, hg2, hb2, hl⟩; have y2 := hl)
      | (go_at_call 72; (with_reducible refine (C3.out _ (by assumption)).mono ?_); rintro e w13 ⟨g3, e3, r3, rfl, -, hg3, hb3, hl⟩; have y3 := hl; have HR := (keptR (h := h) (by assumption) hl).2.1; have p0 := HR.cell 0 (by decide); have f0 := HR.free 0; have p1 := HR.cell 1 (by decide); have f1 := HR.free 1; have p2 := HR.cell 2 (by decide); have f2 := HR.free 2; have p3 := HR.cell 3 (by decide); have f3 := HR.free 3; have p4 := HR.cell 4 (by decide); have f4 := HR.free 4; have p5 := HR.cell 5 (by decide); have f5 := HR.free 5; have p6 := HR.cell 6 (by decide); have f6 := HR.free 6; have p7 := HR.cell 7 (by decide); have f7 := HR.free 7; have p8 := HR.cell 8 (by decide); have f8 := HR.free 8; have p9 := HR.cell 9 (by decide); have f9 := HR.free 9; have p10 := HR.cell 10 (by decide); have f10 := HR.free 10; have p11 := HR.cell 11 (by decide); have f11 := HR.free 11; clear HR)
      | fail)
  rename_i hH
  have a0 : Below w.heap.size w W0.drew := L0.out.drew
  have a1 := a0.trans (y1.mono a0.size)
  have a2 := a1.trans (y2.mono a1.size)
  have a3 := a2.trans (y3.mono a2.size)
  have RA : Bk w13 (w.heap.size + 1) 46 (mc zh (.slice none 0 0) (.slice none 0 0) (.slice none 0 0)) := by
    have b0 : Bk W0.drew (w.heap.size + 1) 46 (mc zh (.slice none 0 0) (.slice none 0 0) (.slice none 0 0)) := R0.out
    have b1 := b0.below y1 b0.lt
    have b2 := b1.below y2 b1.lt
    exact b2.below y3 b2.lt
  have n1 : w.heap.size + 1 < g1 := Nat.lt_of_lt_of_le R0.out.lt hg1
  have n2 : g1 < g2 := Nat.lt_of_lt_of_le hb1.lt hg2
  have n3 : g2 < g3 := Nat.lt_of_lt_of_le hb2.lt hg3
  have B1 := hb1.below y2 hb1.lt
  have F := Lib.hid (filM_bk RA (rph h code au) (.slice (some ⟨g1, 0, none⟩) m1 e1) (.slice (some ⟨g2, 0, none⟩) m2 e2) (.slice (some ⟨g3, 0, none⟩) m3 e3))
  have E := Lib.hid (filM_below a3 (g := w.heap.size + 1) (by omega) (rph h code au) (.slice (some ⟨g1, 0, none⟩) m1 e1) (.slice (some ⟨g2, 0, none⟩) m2 e2) (.slice (some ⟨g3, 0, none⟩) m3 e3))
  have I1 := Lib.hid (filM_other (B1.below y3 B1.lt) (g := w.heap.size + 1) (by omega) (rph h code au) (.slice (some ⟨g1, 0, none⟩) m1 e1) (.slice (some ⟨g2, 0, none⟩) m2 e2) (.slice (some ⟨g3, 0, none⟩) m3 e3))
  have I2 := Lib.hid (filM_other (hb2.below y3 hb2.lt) (g := w.heap.size + 1) (by omega) (rph h code au) (.slice (some ⟨g1, 0, none⟩) m1 e1) (.slice (some ⟨g2, 0, none⟩) m2 e2) (.slice (some ⟨g3, 0, none⟩) m3 e3))
  have I3 := Lib.hid (filM_other hb3 (g := w.heap.size + 1) (by omega) (rph h code au) (.slice (some ⟨g1, 0, none⟩) m1 e1) (.slice (some ⟨g2, 0, none⟩) m2 e2) (.slice (some ⟨g3, 0, none⟩) m3 e3))
  clear hH S0 R0 X0 L0 C1 C2 C3 a0 a1 a2 a3 RA B1 hb1 hb2 hb3 hg1 hg2 hg3 y1 y2 y3 hl hW0 p0 f0 p1 f1 p2 f2 p3 f3 p4 f4 p5 f5 p6 f6 p7 f7 p8 f8 p9 f9 p10 f10 p11 f11
  go_wp2
  exact bodyPost_ret (v := .agg #[.int .i64 (rph h code au).id, .bool (rph h code au).rp, .bool (rph h code au).au, .bool (rph h code au).ct, .bool (rph h code au).wa, .bool (rph h code au).ca, .int .i64 (rph h code au).code, .string (rph h code au).qn, .int .i64 (rph h code au).qt, .slice (some ⟨g1, 0, none⟩) m1 e1, .slice (some ⟨g2, 0, none⟩) m2 e2, .slice (some ⟨g3, 0, none⟩) m3 e3]) (res1M rfl F.out rfl) rfl ⟨g1, e1, r1, g2, e2, r2, g3, e3, r3, rfl, I1.out, I2.out, I3.out, by omega, n2, n3, E.out⟩

end Go.Proofs.Ytmabbeefeipnaaa.RepM

/- What l11First does in the model, and shortened and copyRecords in the program: the first eight records (copied by the model; of a nil slice too in the program). Condition: l11First, shortened: at most 1100000000000 records. -/
namespace Go.Proofs.Ytmabbeefeipnaaa.ShoS
open Go.RowKit Go.Proofs.Ytmabbeefeipnaaa.Mem Go.Proofs.Ytmabbeefeipnaaa.MemR Go.Proofs.Ytmabbeefeipnaaa.AppR Go.Proofs.Ytmabbeefeipnaaa.CpyR Go.Proofs.Ytmabbeefeipnaaa.Wt

/-- The lesser of a length and eight. -/
def m8 (m : Nat) : Nat := if m ≤ 8 then m else 8

theorem m8_le (m : Nat) : m8 m ≤ 8 ∧ m8 m ≤ m := by unfold m8; split <;> omega

theorem m8_len (L : List Rec) {m : Nat} (h : L.length = m) : (L.take 8).length = m8 m := by
  rw [List.length_take, h]
  unfold m8
  split <;> omega

theorem sr_take {w : World} {B m : Nat} {A : Option Addr} {L : List Rec} (h : Sr w B A m L) : Sr w B A (m8 m) (L.take 8) := by
  refine ⟨m8_len L h.1, fun hn => ?_⟩
  obtain ⟨b, off, hA, hb, hc⟩ := h.2 (Nat.lt_of_lt_of_le hn (m8_le m).2)
  refine ⟨b, off, hA, hb, fun j hj => ?_⟩
  rw [List.getElem_take]
  exact hc j (by rw [List.length_take] at hj; omega)

set_option maxHeartbeats 1000000 in
theorem leastI (m : Nat) (w : World) : Calls Try.prog 75 #[.int .i64 (m : Int), .int .i64 8] w fun e w' => e = .returned (.int .i64 ((m8 m : Nat) : Int)) ∧ w = w' := by
  by_cases h : m ≤ 8
  · rw [show m8 m = m from if_pos h]
    by_cases h8 : m = 8
    · subst h8
      go_enter Try.func75, Try.ntmps75
      go_wp2
      go_ret
      exact ⟨rfl, rfl⟩
    · have h1 : (m : Int) < 8 := by omega
      have h2 : ¬ (8 : Int) < (m : Int) := by omega
      go_enter Try.func75, Try.ntmps75
      go_wp2
      go_ret
      first | exact ⟨rfl, rfl⟩ | exact ⟨congrArg (fun x : Int => Ending.returned (Value.int .i64 x)) (show min (m : Int) 8 = (m : Int) by omega), rfl⟩
  · rw [show m8 m = 8 from if_neg h]
    have h1 : (8 : Int) < (m : Int) := by omega
    have h2 : ¬ (m : Int) < 8 := by omega
    go_enter Try.func75, Try.ntmps75
    go_wp2
    go_ret
    first | exact ⟨rfl, rfl⟩ | exact ⟨congrArg (fun x : Int => Ending.returned (Value.int .i64 x)) (show min (m : Int) 8 = ((8 : Nat) : Int) by omega), rfl⟩

set_option maxHeartbeats 1000000 in
theorem leastS (m : Nat) (w : World) : Calls Try.prog 73 #[.int .i64 (m : Int), .int .i64 8] w fun e w' => e = .returned (.int .i64 ((m8 m : Nat) : Int)) ∧ w = w' := by
  by_cases h : m ≤ 8
  · rw [show m8 m = m from if_pos h]
    have h2 : ¬ (8 : Int) < (m : Int) := by omega
    go_enter Try.func73, Try.ntmps73
    go_wp2
    go_ret
    exact ⟨rfl, rfl⟩
  · rw [show m8 m = 8 from if_neg h]
    have h1 : (8 : Int) < (m : Int) := by omega
    go_enter Try.func73, Try.ntmps73
    go_wp2
    go_ret
    exact ⟨rfl, rfl⟩

set_option maxHeartbeats 2000000 in
theorem shortened (A : Option Addr) (m c : Nat) (w : World) (hA : (A = none ∧ m = 0 ∧ c = 0) ∨ ∃ g, A = some ⟨g, 0, none⟩) (hmc : m ≤ c) (hm : m ≤ 1100000000000) :
    Calls Try.prog 54 #[.slice A m c] w fun e w' => e = .returned (.slice A (m8 m) c) ∧ w = w' := by
  have LE := Lib.hid (fun W => leastI m W)
  have h8 := m8_le m
  have h9 : m8 m ≤ c := by omega
  rcases hA with ⟨rfl, rfl, rfl⟩ | ⟨g, rfl⟩
  · rw [show m8 0 = 0 from rfl] at *
    go_enter Try.func54, Try.ntmps54
    go_wp2_with fail
    refine (LE.out _).mono ?_
    rintro e w1 ⟨rfl, rfl⟩
    go_wp2
    go_ret
    exact ⟨rfl, rfl⟩
  · generalize m8 m = k at *
    go_enter Try.func54, Try.ntmps54
    go_wp2_with fail
    refine (LE.out _).mono ?_
    rintro e w1 ⟨rfl, rfl⟩
    go_wp2
    go_ret
    exact ⟨rfl, rfl⟩

set_option maxHeartbeats 2000000 in
theorem first (g m c : Nat) (L : List Rec) (w : World) (hs : Sr w w.heap.size (some ⟨g, 0, none⟩) m L) (hmc : m ≤ c) :
    Calls Try.prog 52 #[.slice (some ⟨g, 0, none⟩) m c] w (GivesC w (m8 m) (L.take 8)) := by
  have LE := Lib.hid (fun W => leastS m W)
  have h8 := m8_le m
  have h9 : m8 m ≤ c := by omega
  have CP := Lib.hid (copyS g 0 (m8 m) c (L.take 8) w (sr_take hs) (by omega))
  clear hs
  generalize m8 m = k at *
  go_enter Try.func52, Try.ntmps52
  go_wp2_with fail
  refine (LE.out _).mono ?_
  rintro e w1 ⟨rfl, rfl⟩
  go_wp2_with fail
  refine CP.out.mono ?_
  rintro e w1 ⟨g1, c1, r1, rfl, h1, h2, h3, h4⟩
  have H := Lib.hid (And.intro h1 (And.intro h2 (And.intro h3 h4)))
  clear h1 h2 h3 h4
  go_wp2
  go_ret
  exact ⟨g1, c1, r1, rfl, H.out⟩

/-- copyRecords of a slice that may be nil. -/
theorem copyN (A : Option Addr) (n c : Nat) (l : List Rec) (w : World) (hA : (A = none ∧ n = 0 ∧ c = 0) ∨ ∃ g, A = some ⟨g, 0, none⟩) (hs : Sr w w.heap.size A n l) (hn : n ≤ 400000000) : Calls Try.prog 74 #[.slice A n c] w (GivesC w n l) := by
  rcases hA with ⟨rfl, rfl, rfl⟩ | ⟨g, rfl⟩
  · obtain rfl : l = [] := List.length_eq_zero_iff.1 hs.1
    have L0 := Lib.hid ((Below.refl w.heap.size w).alloc (Nat.le_refl _) (.cells #[] 68))
    have O0 := Lib.hid (owns_new w)
    have N0 : Hid (Bk (w.alloc (.cells #[] 68)) w.heap.size 68 (fl [] ++ [])) := heap_alloc_new w _
    obtain ⟨i0, hi, hz0, hz1, hz2⟩ := info_parts CopyR.info
    clear hs
    go_enter Try.func74, Try.ntmps74
    go_wp2_with (at_builtin; refine wpList_append_own_none rfl (.tmp 3) (.tmp 4) 30 rfl w.heap.size 68 i0 6 Try.underlying30 hi _ 0 [] rfl O0.out rfl ?_)
    go_wp2
    go_ret
    exact ⟨w.heap.size, 0, [], rfl, Nat.le_refl _, Nat.le_refl _, N0.out, L0.out⟩
  · exact copyI g 0 n c l w hs hn

end Go.Proofs.Ytmabbeefeipnaaa.ShoS

/- What ReplyTo does in the program where a section may be nil. Condition: fewer than 400000001 records in each section. -/
namespace Go.Proofs.Ytmabbeefeipnaaa.RepN
open Go.RowKit Go.Proofs.Ytmabbeefeipnaaa.Mem Go.Proofs.Ytmabbeefeipnaaa.MemR Go.Proofs.Ytmabbeefeipnaaa.BoxR Go.Proofs.Ytmabbeefeipnaaa.MemM Go.Proofs.Ytmabbeefeipnaaa.CpyR Go.Proofs.Ytmabbeefeipnaaa.ResM Go.Proofs.Ytmabbeefeipnaaa.RepM Go.Proofs.Ytmabbeefeipnaaa.ShoS

set_option maxRecDepth 100000 in
set_option maxHeartbeats 8000000 in
theorem impl (h : Hd) (A1 A2 A3 : Option Addr) (n1 c1 n2 c2 n3 c3 : Nat) (code : Int) (au : Bool) (B1 : Option Addr) (m1 d1 : Nat) (l1 : List Rec) (B2 : Option Addr) (m2 d2 : Nat) (l2 : List Rec) (B3 : Option Addr) (m3 d3 : Nat) (l3 : List Rec) (w : World)
    (s1 : Sr w w.heap.size B1 m1 l1) (z1 : m1 ≤ 400000000) (p1 : (B1 = none ∧ m1 = 0 ∧ d1 = 0) ∨ ∃ g, B1 = some ⟨g, 0, none⟩) (s2 : Sr w w.heap.size B2 m2 l2) (z2 : m2 ≤ 400000000) (p2 : (B2 = none ∧ m2 = 0 ∧ d2 = 0) ∨ ∃ g, B2 = some ⟨g, 0, none⟩) (s3 : Sr w w.heap.size B3 m3 l3) (z3 : m3 ≤ 400000000) (p3 : (B3 = none ∧ m3 = 0 ∧ d3 = 0) ∨ ∃ g, B3 = some ⟨g, 0, none⟩) :
    Calls Try.prog 53 #[.agg #[.int .i64 h.id, .bool h.rp, .bool h.au, .bool h.ct, .bool h.wa, .bool h.ca, .int .i64 h.code, .string h.qn, .int .i64 h.qt, .slice A1 n1 c1, .slice A2 n2 c2, .slice A3 n3 c3], .int .i64 code, .bool au, .slice B1 m1 d1, .slice B2 m2 d2, .slice B3 m3 d3] w (GivesM w (rph h code au) m1 m2 m3 l1 l2 l3) := by
  have C1 : Hid (∀ W : World, ((W.cell? ⟨w.heap.size, 0, none⟩ = some (.int .i64 h.id) ∧ W.cell? ⟨w.heap.size, 4, none⟩ = some (.bool h.wa) ∧ W.cell? ⟨w.heap.size, 7, none⟩ = some (.string h.qn) ∧ W.cell? ⟨w.heap.size, 8, none⟩ = some (.int .i64 h.qt)) ∧ RB W (w.heap.size + 1) ∧ Sv w W) → Calls Try.prog 74 #[.slice B1 m1 d1] W (GivesC W m1 l1)) := fun W hW => copyN B1 m1 d1 l1 W p1 (s1.on hW.2.2) z1
  have C2 : Hid (∀ W : World, ((W.cell? ⟨w.heap.size, 0, none⟩ = some (.int .i64 h.id) ∧ W.cell? ⟨w.heap.size, 4, none⟩ = some (.bool h.wa) ∧ W.cell? ⟨w.heap.size, 7, none⟩ = some (.string h.qn) ∧ W.cell? ⟨w.heap.size, 8, none⟩ = some (.int .i64 h.qt)) ∧ RB W (w.heap.size + 1) ∧ Sv w W) → Calls Try.prog 74 #[.slice B2 m2 d2] W (GivesC W m2 l2)) := fun W hW => copyN B2 m2 d2 l2 W p2 (s2.on hW.2.2) z2
  have C3 : Hid (∀ W : World, ((W.cell? ⟨w.heap.size, 0, none⟩ = some (.int .i64 h.id) ∧ W.cell? ⟨w.heap.size, 4, none⟩ = some (.bool h.wa) ∧ W.cell? ⟨w.heap.size, 7, none⟩ = some (.string h.qn) ∧ W.cell? ⟨w.heap.size, 8, none⟩ = some (.int .i64 h.qt)) ∧ RB W (w.heap.size + 1) ∧ Sv w W) → Calls Try.prog 74 #[.slice B3 m3 d3] W (GivesC W m3 l3)) := fun W hW => copyN B3 m3 d3 l3 W p3 (s3.on hW.2.2) z3
  have X0 := Lib.hid ((mx_new w 46 h (.slice A1 n1 c1) (.slice A2 n2 c2) (.slice A3 n3 c3)).alloc (.cells #[.int .i64 0, .bool false, .bool false, .bool false, .bool false, .bool false, .int .i64 0, .string ⟨#[]⟩, .int .i64 0, .slice none 0 0, .slice none 0 0, .slice none 0 0] 46))
  have R0 := Lib.hid (at2 (w := w) (a := .cells #[.int .i64 h.id, .bool h.rp, .bool h.au, .bool h.ct, .bool h.wa, .bool h.ca, .int .i64 h.code, .string h.qn, .int .i64 h.qt, .slice A1 n1 c1, .slice A2 n2 c2, .slice A3 n3 c3] 46) (cs := #[.int .i64 0, .bool false, .bool false, .bool false, .bool false, .bool false, .int .i64 0, .string ⟨#[]⟩, .int .i64 0, .slice none 0 0, .slice none 0 0, .slice none 0 0]) (t := 46))
  have L0 := Lib.hid (((Below.refl w.heap.size w).alloc (Nat.le_refl _) (.cells #[.int .i64 h.id, .bool h.rp, .bool h.au, .bool h.ct, .bool h.wa, .bool h.ca, .int .i64 h.code, .string h.qn, .int .i64 h.qt, .slice A1 n1 c1, .slice A2 n2 c2, .slice A3 n3 c3] 46)).alloc (by simp) (.cells #[.int .i64 0, .bool false, .bool false, .bool false, .bool false, .bool false, .int .i64 0, .string ⟨#[]⟩, .int .i64 0, .slice none 0 0, .slice none 0 0, .slice none 0 0] 46))
  have S0 : (((w.alloc (.cells #[.int .i64 h.id, .bool h.rp, .bool h.au, .bool h.ct, .bool h.wa, .bool h.ca, .int .i64 h.code, .string h.qn, .int .i64 h.qt, .slice A1 n1 c1, .slice A2 n2 c2, .slice A3 n3 c3] 46)).alloc (.cells #[.int .i64 0, .bool false, .bool false, .bool false, .bool false, .bool false, .int .i64 0, .string ⟨#[]⟩, .int .i64 0, .slice none 0 0, .slice none 0 0, .slice none 0 0] 46)).cell? ⟨w.heap.size, 0, none⟩ = some (.int .i64 h.id) ∧ ((w.alloc (.cells #[.int .i64 h.id, .bool h.rp, .bool h.au, .bool h.ct, .bool h.wa, .bool h.ca, .int .i64 h.code, .string h.qn, .int .i64 h.qt, .slice A1 n1 c1, .slice A2 n2 c2, .slice A3 n3 c3] 46)).alloc (.cells #[.int .i64 0, .bool false, .bool false, .bool false, .bool false, .bool false, .int .i64 0, .string ⟨#[]⟩, .int .i64 0, .slice none 0 0, .slice none 0 0, .slice none 0 0] 46)).cell? ⟨w.heap.size, 4, none⟩ = some (.bool h.wa) ∧ ((w.alloc (.cells #[.int .i64 h.id, .bool h.rp, .bool h.au, .bool h.ct, .bool h.wa, .bool h.ca, .int .i64 h.code, .string h.qn, .int .i64 h.qt, .slice A1 n1 c1, .slice A2 n2 c2, .slice A3 n3 c3] 46)).alloc (.cells #[.int .i64 0, .bool false, .bool false, .bool false, .bool false, .bool false, .int .i64 0, .string ⟨#[]⟩, .int .i64 0, .slice none 0 0, .slice none 0 0, .slice none 0 0] 46)).cell? ⟨w.heap.size, 7, none⟩ = some (.string h.qn) ∧ ((w.alloc (.cells #[.int .i64 h.id, .bool h.rp, .bool h.au, .bool h.ct, .bool h.wa, .bool h.ca, .int .i64 h.code, .string h.qn, .int .i64 h.qt, .slice A1 n1 c1, .slice A2 n2 c2, .slice A3 n3 c3] 46)).alloc (.cells #[.int .i64 0, .bool false, .bool false, .bool false, .bool false, .bool false, .int .i64 0, .string ⟨#[]⟩, .int .i64 0, .slice none 0 0, .slice none 0 0, .slice none 0 0] 46)).cell? ⟨w.heap.size, 8, none⟩ = some (.int .i64 h.qt)) ∧ RB ((w.alloc (.cells #[.int .i64 h.id, .bool h.rp, .bool h.au, .bool h.ct, .bool h.wa, .bool h.ca, .int .i64 h.code, .string h.qn, .int .i64 h.qt, .slice A1 n1 c1, .slice A2 n2 c2, .slice A3 n3 c3] 46)).alloc (.cells #[.int .i64 0, .bool false, .bool false, .bool false, .bool false, .bool false, .int .i64 0, .string ⟨#[]⟩, .int .i64 0, .slice none 0 0, .slice none 0 0, .slice none 0 0] 46)) (w.heap.size + 1) ∧ Sv w ((w.alloc (.cells #[.int .i64 h.id, .bool h.rp, .bool h.au, .bool h.ct, .bool h.wa, .bool h.ca, .int .i64 h.code, .string h.qn, .int .i64 h.qt, .slice A1 n1 c1, .slice A2 n2 c2, .slice A3 n3 c3] 46)).alloc (.cells #[.int .i64 0, .bool false, .bool false, .bool false, .bool false, .bool false, .int .i64 0, .string ⟨#[]⟩, .int .i64 0, .slice none 0 0, .slice none 0 0, .slice none 0 0] 46)) :=
    ⟨⟨X0.out.1, X0.out.2.2.2.2.1, X0.out.2.2.2.2.2.2.2.1, X0.out.2.2.2.2.2.2.2.2.1⟩, ⟨_, rfl, R0.out⟩, L0.out⟩
  clear s1 s2 s3 p1 p2 p3
  generalize hW0 : ((w.alloc (.cells #[.int .i64 h.id, .bool h.rp, .bool h.au, .bool h.ct, .bool h.wa, .bool h.ca, .int .i64 h.code, .string h.qn, .int .i64 h.qt, .slice A1 n1 c1, .slice A2 n2 c2, .slice A3 n3 c3] 46)).alloc (.cells #[.int .i64 0, .bool false, .bool false, .bool false, .bool false, .bool false, .int .i64 0, .string ⟨#[]⟩, .int .i64 0, .slice none 0 0, .slice none 0 0, .slice none 0 0] 46)) = W0 at S0 R0 X0 L0
  go_enter Try.func53, Try.ntmps53
  go_wp2
  go_region_held3 (fun w' => (w'.cell? ⟨w.heap.size, 0, none⟩ = some (.int .i64 h.id) ∧ w'.cell? ⟨w.heap.size, 4, none⟩ = some (.bool h.wa) ∧ w'.cell? ⟨w.heap.size, 7, none⟩ = some (.string h.qn) ∧ w'.cell? ⟨w.heap.size, 8, none⟩ = some (.int .i64 h.qt)) ∧ RB w' (w.heap.size + 1) ∧ Sv w w')
    (first | with_reducible exact keptR_fil (w1 := w13) (by assumption) _ _ _ _ _ _ _ _ _ _ _ _ | with_reducible exact S0 | with_reducible assumption | with_reducible exact keptR (by assumption) hl | with_reducible exact keptR_draw (by assumption) | fail)
    (first
      | (go_at_call 74; (with_reducible refine (C1.out _ (by assumption)).mono ?_); rintro e w11 ⟨g1, e1, r1, rfl, -, hg1, hb1, hl⟩; have y1 := hl)
      | (go_at_call 74; (with_reducible refine (C2.out _ (by assumption)).mono ?_); rintro e w12 ⟨g2, e2, r2, rfl, -, hg2, hb2, hl⟩; have y2 := hl)
      | (go_at_call 74; (with_reducible refine (C3.out _ (by assumption)).mono ?_); rintro e w13 ⟨g3, e3, r3, rfl, -, hg3, hb3, hl⟩; have y3 := hl; have HR := (keptR (h := h) (by assumption) hl).2.1; have p0 := HR.cell 0 (by decide); have f0 := HR.free 0; have p1 := HR.cell 1 (by decide); have f1 := HR.free 1; have p2 := HR.cell 2 (by decide); have f2 := HR.free 2; have p3 := HR.cell 3 (by decide); have f3 := HR.free 3; have p4 := HR.cell 4 (by decide); have f4 := HR.free 4; have p5 := HR.cell 5 (by decide); have f5 := HR.free 5; have p6 := HR.cell 6 (by decide); have f6 := HR.free 6; have p7 := HR.cell 7 (by decide); have f7 := HR.free 7; have p8 := HR.cell 8 (by decide); have f8 := HR.free 8; have p9 := HR.cell 9 (by decide); have f9 := HR.free 9; have p10 := HR.cell 10 (by decide); have f10 := HR.free 10; have p11 := HR.cell 11 (by decide); have f11 := HR.free 11; clear HR)
      | fail)
  rename_i hH
  have a0 : Below w.heap.size w W0.drew := L0.out.drew
  have a1 := a0.trans (y1.mono a0.size)
  have a2 := a1.trans (y2.mono a1.size)
  have a3 := a2.trans (y3.mono a2.size)
  have RA : Bk w13 (w.heap.size + 1) 46 (mc zh (.slice none 0 0) (.slice none 0 0) (.slice none 0 0)) := by
    have b0 : Bk W0.drew (w.heap.size + 1) 46 (mc zh (.slice none 0 0) (.slice none 0 0) (.slice none 0 0)) := R0.out
    have b1 := b0.below y1 b0.lt
    have b2 := b1.below y2 b1.lt
    exact b2.below y3 b2.lt
  have n1 : w.heap.size + 1 < g1 := Nat.lt_of_lt_of_le R0.out.lt hg1
  have n2 : g1 < g2 := Nat.lt_of_lt_of_le hb1.lt hg2
  have n3 : g2 < g3 := Nat.lt_of_lt_of_le hb2.lt hg3
  have B1 := hb1.below y2 hb1.lt
  have F := Lib.hid (filM_bk RA (rph h code au) (.slice (some ⟨g1, 0, none⟩) m1 e1) (.slice (some ⟨g2, 0, none⟩) m2 e2) (.slice (some ⟨g3, 0, none⟩) m3 e3))
  have E := Lib.hid (filM_below a3 (g := w.heap.size + 1) (by omega) (rph h code au) (.slice (some ⟨g1, 0, none⟩) m1 e1) (.slice (some ⟨g2, 0, none⟩) m2 e2) (.slice (some ⟨g3, 0, none⟩) m3 e3))
  have I1 := Lib.hid (filM_other (B1.below y3 B1.lt) (g := w.heap.size + 1) (by omega) (rph h code au) (.slice (some ⟨g1, 0, none⟩) m1 e1) (.slice (some ⟨g2, 0, none⟩) m2 e2) (.slice (some ⟨g3, 0, none⟩) m3 e3))
  have I2 := Lib.hid (filM_other (hb2.below y3 hb2.lt) (g := w.heap.size + 1) (by omega) (rph h code au) (.slice (some ⟨g1, 0, none⟩) m1 e1) (.slice (some ⟨g2, 0, none⟩) m2 e2) (.slice (some ⟨g3, 0, none⟩) m3 e3))
  have I3 := Lib.hid (filM_other hb3 (g := w.heap.size + 1) (by omega) (rph h code au) (.slice (some ⟨g1, 0, none⟩) m1 e1) (.slice (some ⟨g2, 0, none⟩) m2 e2) (.slice (some ⟨g3, 0, none⟩) m3 e3))
  clear hH S0 R0 X0 L0 C1 C2 C3 a0 a1 a2 a3 RA B1 hb1 hb2 hb3 hg1 hg2 hg3 y1 y2 y3 hl hW0 p0 f0 p1 f1 p2 f2 p3 f3 p4 f4 p5 f5 p6 f6 p7 f7 p8 f8 p9 f9 p10 f10 p11 f11
  go_wp2
  exact bodyPost_ret (v := .agg #[.int .i64 (rph h code au).id, .bool (rph h code au).rp, .bool (rph h code au).au, .bool (rph h code au).ct, .bool (rph h code au).wa, .bool (rph h code au).ca, .int .i64 (rph h code au).code, .string (rph h code au).qn, .int .i64 (rph h code au).qt, .slice (some ⟨g1, 0, none⟩) m1 e1, .slice (some ⟨g2, 0, none⟩) m2 e2, .slice (some ⟨g3, 0, none⟩) m3 e3]) (res1M rfl F.out rfl) rfl ⟨g1, e1, r1, g2, e2, r2, g3, e3, r3, rfl, I1.out, I2.out, I3.out, by omega, n2, n3, E.out⟩

end Go.Proofs.Ytmabbeefeipnaaa.RepN

/- What Serve does in the program: a reply with the code, the flag and the first eight records of each section of the content. Condition: at most 1048576 records, no name of more than 400000000 bytes. -/
namespace Go.Proofs.Ytmabbeefeipnaaa.ServI
open Go.RowKit Go.Proofs.Ytmabbeefeipnaaa.Mem Go.Proofs.Ytmabbeefeipnaaa.MemR Go.Proofs.Ytmabbeefeipnaaa.SetMath Go.Proofs.Ytmabbeefeipnaaa.ZoneMath Go.Proofs.Ytmabbeefeipnaaa.ServeMath Go.Proofs.Ytmabbeefeipnaaa.MemZ Go.Proofs.Ytmabbeefeipnaaa.MemM Go.Proofs.Ytmabbeefeipnaaa.BoxR Go.Proofs.Ytmabbeefeipnaaa.CpyR Go.Proofs.Ytmabbeefeipnaaa.ResM Go.Proofs.Ytmabbeefeipnaaa.RepM Go.Proofs.Ytmabbeefeipnaaa.Wt Go.Proofs.Ytmabbeefeipnaaa.ShoS Go.Proofs.Ytmabbeefeipnaaa.ResC Go.Proofs.Ytmabbeefeipnaaa.ContI

theorem Sec.put {B k : Nat} {w : World} {A : Option Addr} {m c : Nat} {L : List Rec} (h : Sec B w A m c L) (hk : k < B) (i : Nat) (v : Value) : Sec B (w.setCell ⟨k, i, none⟩ v) A m c L := by
  rcases h with h | ⟨g, r, h1, h2, h3, h4, h5⟩
  · exact .inl h
  · exact .inr ⟨g, r, h1, h2, h3, h4, h5.other (p := ⟨k, i, none⟩) (show g ≠ k by omega) v⟩

theorem cells5 {w w' : World} {b : Nat} {x0 x1 x2 x3 x4 : Value} (m : w.cell? ⟨b, 0, none⟩ = some x0 ∧ w.cell? ⟨b, 1, none⟩ = some x1 ∧ w.cell? ⟨b, 2, none⟩ = some x2 ∧ w.cell? ⟨b, 3, none⟩ = some x3 ∧ w.cell? ⟨b, 4, none⟩ = some x4) (e : ∀ j, w'.cell? ⟨b, j, none⟩ = w.cell? ⟨b, j, none⟩) : w'.cell? ⟨b, 0, none⟩ = some x0 ∧ w'.cell? ⟨b, 1, none⟩ = some x1 ∧ w'.cell? ⟨b, 2, none⟩ = some x2 ∧ w'.cell? ⟨b, 3, none⟩ = some x3 ∧ w'.cell? ⟨b, 4, none⟩ = some x4 :=
  ⟨(e 0).trans m.1, (e 1).trans m.2.1, (e 2).trans m.2.2.1, (e 3).trans m.2.2.2.1, (e 4).trans m.2.2.2.2⟩

theorem alt {B : Nat} {w : World} {A : Option Addr} {m c : Nat} {L : List Rec} (h : Sec B w A m c L) : ((A = none ∧ m = 0 ∧ c = 0) ∨ ∃ g, A = some ⟨g, 0, none⟩) ∧ ((A = none ∧ m8 m = 0 ∧ c = 0) ∨ ∃ g, A = some ⟨g, 0, none⟩) := by
  rcases h with ⟨h1, rfl, h2, _⟩ | ⟨g, r, h1, _⟩
  · exact ⟨.inl ⟨h1, rfl, h2⟩, .inl ⟨h1, rfl, h2⟩⟩
  · exact ⟨.inr ⟨g, h1⟩, .inr ⟨g, h1⟩⟩

section
variable {w0 w w1 w' : World} {k : Nat} {g b : Nat} {h : Hd} {A1 A2 A3 B1 B2 B3 : Option Addr} {n1 c1 n2 c2 n3 c3 m1 e1 m2 e2 m3 e3 : Nat} {d : Int} {a : Bool} {J1 J2 J3 : List Rec}

theorem keptI (m : ((((w.cell? ⟨g, 0, none⟩ = some (.int .i64 h.id) ∧ w.cell? ⟨g, 1, none⟩ = some (.bool h.rp) ∧ w.cell? ⟨g, 2, none⟩ = some (.bool h.au) ∧ w.cell? ⟨g, 3, none⟩ = some (.bool h.ct) ∧ w.cell? ⟨g, 4, none⟩ = some (.bool h.wa) ∧ w.cell? ⟨g, 5, none⟩ = some (.bool h.ca) ∧ w.cell? ⟨g, 6, none⟩ = some (.int .i64 h.code) ∧ w.cell? ⟨g, 7, none⟩ = some (.string h.qn) ∧ w.cell? ⟨g, 8, none⟩ = some (.int .i64 h.qt) ∧ w.cell? ⟨g, 9, none⟩ = some (.slice A1 n1 c1) ∧ w.cell? ⟨g, 10, none⟩ = some (.slice A2 n2 c2) ∧ w.cell? ⟨g, 11, none⟩ = some (.slice A3 n3 c3)) ∧ (w.cell? ⟨b, 0, none⟩ = some (.int .i64 d) ∧ w.cell? ⟨b, 1, none⟩ = some (.bool a) ∧ w.cell? ⟨b, 2, none⟩ = some (.slice B1 m1 e1) ∧ w.cell? ⟨b, 3, none⟩ = some (.slice B2 m2 e2) ∧ w.cell? ⟨b, 4, none⟩ = some (.slice B3 m3 e3))) ∧ Sec (k + 1) w B1 m1 e1 J1 ∧ Sec (k + 1) w B2 m2 e2 J2 ∧ Sec (k + 1) w B3 m3 e3 J3) ∧ RB w k) ∧ Sv w0 w) (hl : Below w.heap.size w w') : ((((w'.cell? ⟨g, 0, none⟩ = some (.int .i64 h.id) ∧ w'.cell? ⟨g, 1, none⟩ = some (.bool h.rp) ∧ w'.cell? ⟨g, 2, none⟩ = some (.bool h.au) ∧ w'.cell? ⟨g, 3, none⟩ = some (.bool h.ct) ∧ w'.cell? ⟨g, 4, none⟩ = some (.bool h.wa) ∧ w'.cell? ⟨g, 5, none⟩ = some (.bool h.ca) ∧ w'.cell? ⟨g, 6, none⟩ = some (.int .i64 h.code) ∧ w'.cell? ⟨g, 7, none⟩ = some (.string h.qn) ∧ w'.cell? ⟨g, 8, none⟩ = some (.int .i64 h.qt) ∧ w'.cell? ⟨g, 9, none⟩ = some (.slice A1 n1 c1) ∧ w'.cell? ⟨g, 10, none⟩ = some (.slice A2 n2 c2) ∧ w'.cell? ⟨g, 11, none⟩ = some (.slice A3 n3 c3)) ∧ (w'.cell? ⟨b, 0, none⟩ = some (.int .i64 d) ∧ w'.cell? ⟨b, 1, none⟩ = some (.bool a) ∧ w'.cell? ⟨b, 2, none⟩ = some (.slice B1 m1 e1) ∧ w'.cell? ⟨b, 3, none⟩ = some (.slice B2 m2 e2) ∧ w'.cell? ⟨b, 4, none⟩ = some (.slice B3 m3 e3))) ∧ Sec (k + 1) w' B1 m1 e1 J1 ∧ Sec (k + 1) w' B2 m2 e2 J2 ∧ Sec (k + 1) w' B3 m3 e3 J3) ∧ RB w' k) ∧ Sv w0 w' :=
  ⟨⟨⟨⟨Mx.below m.1.1.1.1 hl, cells5 m.1.1.1.2 fun j => hl.cell (p := ⟨b, j, none⟩) (World.block_lt_of_cell? w ⟨b, 0, none⟩ m.1.1.1.2.1)⟩, m.1.1.2.1.below hl, m.1.1.2.2.1.below hl, m.1.1.2.2.2.below hl⟩, m.1.2.below hl⟩, m.2.trans (hl.mono m.2.size)⟩

theorem keptI_draw (m : ((((w.cell? ⟨g, 0, none⟩ = some (.int .i64 h.id) ∧ w.cell? ⟨g, 1, none⟩ = some (.bool h.rp) ∧ w.cell? ⟨g, 2, none⟩ = some (.bool h.au) ∧ w.cell? ⟨g, 3, none⟩ = some (.bool h.ct) ∧ w.cell? ⟨g, 4, none⟩ = some (.bool h.wa) ∧ w.cell? ⟨g, 5, none⟩ = some (.bool h.ca) ∧ w.cell? ⟨g, 6, none⟩ = some (.int .i64 h.code) ∧ w.cell? ⟨g, 7, none⟩ = some (.string h.qn) ∧ w.cell? ⟨g, 8, none⟩ = some (.int .i64 h.qt) ∧ w.cell? ⟨g, 9, none⟩ = some (.slice A1 n1 c1) ∧ w.cell? ⟨g, 10, none⟩ = some (.slice A2 n2 c2) ∧ w.cell? ⟨g, 11, none⟩ = some (.slice A3 n3 c3)) ∧ (w.cell? ⟨b, 0, none⟩ = some (.int .i64 d) ∧ w.cell? ⟨b, 1, none⟩ = some (.bool a) ∧ w.cell? ⟨b, 2, none⟩ = some (.slice B1 m1 e1) ∧ w.cell? ⟨b, 3, none⟩ = some (.slice B2 m2 e2) ∧ w.cell? ⟨b, 4, none⟩ = some (.slice B3 m3 e3))) ∧ Sec (k + 1) w B1 m1 e1 J1 ∧ Sec (k + 1) w B2 m2 e2 J2 ∧ Sec (k + 1) w B3 m3 e3 J3) ∧ RB w k) ∧ Sv w0 w) : ((((w.drew.cell? ⟨g, 0, none⟩ = some (.int .i64 h.id) ∧ w.drew.cell? ⟨g, 1, none⟩ = some (.bool h.rp) ∧ w.drew.cell? ⟨g, 2, none⟩ = some (.bool h.au) ∧ w.drew.cell? ⟨g, 3, none⟩ = some (.bool h.ct) ∧ w.drew.cell? ⟨g, 4, none⟩ = some (.bool h.wa) ∧ w.drew.cell? ⟨g, 5, none⟩ = some (.bool h.ca) ∧ w.drew.cell? ⟨g, 6, none⟩ = some (.int .i64 h.code) ∧ w.drew.cell? ⟨g, 7, none⟩ = some (.string h.qn) ∧ w.drew.cell? ⟨g, 8, none⟩ = some (.int .i64 h.qt) ∧ w.drew.cell? ⟨g, 9, none⟩ = some (.slice A1 n1 c1) ∧ w.drew.cell? ⟨g, 10, none⟩ = some (.slice A2 n2 c2) ∧ w.drew.cell? ⟨g, 11, none⟩ = some (.slice A3 n3 c3)) ∧ (w.drew.cell? ⟨b, 0, none⟩ = some (.int .i64 d) ∧ w.drew.cell? ⟨b, 1, none⟩ = some (.bool a) ∧ w.drew.cell? ⟨b, 2, none⟩ = some (.slice B1 m1 e1) ∧ w.drew.cell? ⟨b, 3, none⟩ = some (.slice B2 m2 e2) ∧ w.drew.cell? ⟨b, 4, none⟩ = some (.slice B3 m3 e3))) ∧ Sec (k + 1) w.drew B1 m1 e1 J1 ∧ Sec (k + 1) w.drew B2 m2 e2 J2 ∧ Sec (k + 1) w.drew B3 m3 e3 J3) ∧ RB w.drew k) ∧ Sv w0 w.drew := keptI m ((Below.refl _ _).drew)

theorem keptI_put (m : ((((w.cell? ⟨g, 0, none⟩ = some (.int .i64 h.id) ∧ w.cell? ⟨g, 1, none⟩ = some (.bool h.rp) ∧ w.cell? ⟨g, 2, none⟩ = some (.bool h.au) ∧ w.cell? ⟨g, 3, none⟩ = some (.bool h.ct) ∧ w.cell? ⟨g, 4, none⟩ = some (.bool h.wa) ∧ w.cell? ⟨g, 5, none⟩ = some (.bool h.ca) ∧ w.cell? ⟨g, 6, none⟩ = some (.int .i64 h.code) ∧ w.cell? ⟨g, 7, none⟩ = some (.string h.qn) ∧ w.cell? ⟨g, 8, none⟩ = some (.int .i64 h.qt) ∧ w.cell? ⟨g, 9, none⟩ = some (.slice A1 n1 c1) ∧ w.cell? ⟨g, 10, none⟩ = some (.slice A2 n2 c2) ∧ w.cell? ⟨g, 11, none⟩ = some (.slice A3 n3 c3)) ∧ (w.cell? ⟨b, 0, none⟩ = some (.int .i64 d) ∧ w.cell? ⟨b, 1, none⟩ = some (.bool a) ∧ w.cell? ⟨b, 2, none⟩ = some (.slice B1 m1 e1) ∧ w.cell? ⟨b, 3, none⟩ = some (.slice B2 m2 e2) ∧ w.cell? ⟨b, 4, none⟩ = some (.slice B3 m3 e3))) ∧ Sec (k + 1) w B1 m1 e1 J1 ∧ Sec (k + 1) w B2 m2 e2 J2 ∧ Sec (k + 1) w B3 m3 e3 J3) ∧ RB w k) ∧ Sv w0 w) (h0 : w0.heap.size ≤ k) (h1 : g ≠ k) (h2 : b ≠ k) (i : Nat) (v : Value) : (((((w.setCell ⟨k, i, none⟩ v).cell? ⟨g, 0, none⟩ = some (.int .i64 h.id) ∧ (w.setCell ⟨k, i, none⟩ v).cell? ⟨g, 1, none⟩ = some (.bool h.rp) ∧ (w.setCell ⟨k, i, none⟩ v).cell? ⟨g, 2, none⟩ = some (.bool h.au) ∧ (w.setCell ⟨k, i, none⟩ v).cell? ⟨g, 3, none⟩ = some (.bool h.ct) ∧ (w.setCell ⟨k, i, none⟩ v).cell? ⟨g, 4, none⟩ = some (.bool h.wa) ∧ (w.setCell ⟨k, i, none⟩ v).cell? ⟨g, 5, none⟩ = some (.bool h.ca) ∧ (w.setCell ⟨k, i, none⟩ v).cell? ⟨g, 6, none⟩ = some (.int .i64 h.code) ∧ (w.setCell ⟨k, i, none⟩ v).cell? ⟨g, 7, none⟩ = some (.string h.qn) ∧ (w.setCell ⟨k, i, none⟩ v).cell? ⟨g, 8, none⟩ = some (.int .i64 h.qt) ∧ (w.setCell ⟨k, i, none⟩ v).cell? ⟨g, 9, none⟩ = some (.slice A1 n1 c1) ∧ (w.setCell ⟨k, i, none⟩ v).cell? ⟨g, 10, none⟩ = some (.slice A2 n2 c2) ∧ (w.setCell ⟨k, i, none⟩ v).cell? ⟨g, 11, none⟩ = some (.slice A3 n3 c3)) ∧ ((w.setCell ⟨k, i, none⟩ v).cell? ⟨b, 0, none⟩ = some (.int .i64 d) ∧ (w.setCell ⟨k, i, none⟩ v).cell? ⟨b, 1, none⟩ = some (.bool a) ∧ (w.setCell ⟨k, i, none⟩ v).cell? ⟨b, 2, none⟩ = some (.slice B1 m1 e1) ∧ (w.setCell ⟨k, i, none⟩ v).cell? ⟨b, 3, none⟩ = some (.slice B2 m2 e2) ∧ (w.setCell ⟨k, i, none⟩ v).cell? ⟨b, 4, none⟩ = some (.slice B3 m3 e3))) ∧ Sec (k + 1) (w.setCell ⟨k, i, none⟩ v) B1 m1 e1 J1 ∧ Sec (k + 1) (w.setCell ⟨k, i, none⟩ v) B2 m2 e2 J2 ∧ Sec (k + 1) (w.setCell ⟨k, i, none⟩ v) B3 m3 e3 J3) ∧ RB (w.setCell ⟨k, i, none⟩ v) k) ∧ Sv w0 (w.setCell ⟨k, i, none⟩ v) :=
  ⟨⟨⟨⟨Mx.set1 m.1.1.1.1 (p := ⟨k, i, none⟩) h1 v, cells5 m.1.1.1.2 fun _ => World.cell?_of_block (Below.heap_setCell w ⟨k, i, none⟩ v b h2)⟩, Sec.put m.1.1.2.1 (Nat.lt_succ_self k) i v, Sec.put m.1.1.2.2.1 (Nat.lt_succ_self k) i v, Sec.put m.1.1.2.2.2 (Nat.lt_succ_self k) i v⟩, m.1.2.put i v⟩, Below.setCell m.2 (p := ⟨k, i, none⟩) h0 v⟩

theorem keptI_fil (m : ((((w1.cell? ⟨g, 0, none⟩ = some (.int .i64 h.id) ∧ w1.cell? ⟨g, 1, none⟩ = some (.bool h.rp) ∧ w1.cell? ⟨g, 2, none⟩ = some (.bool h.au) ∧ w1.cell? ⟨g, 3, none⟩ = some (.bool h.ct) ∧ w1.cell? ⟨g, 4, none⟩ = some (.bool h.wa) ∧ w1.cell? ⟨g, 5, none⟩ = some (.bool h.ca) ∧ w1.cell? ⟨g, 6, none⟩ = some (.int .i64 h.code) ∧ w1.cell? ⟨g, 7, none⟩ = some (.string h.qn) ∧ w1.cell? ⟨g, 8, none⟩ = some (.int .i64 h.qt) ∧ w1.cell? ⟨g, 9, none⟩ = some (.slice A1 n1 c1) ∧ w1.cell? ⟨g, 10, none⟩ = some (.slice A2 n2 c2) ∧ w1.cell? ⟨g, 11, none⟩ = some (.slice A3 n3 c3)) ∧ (w1.cell? ⟨b, 0, none⟩ = some (.int .i64 d) ∧ w1.cell? ⟨b, 1, none⟩ = some (.bool a) ∧ w1.cell? ⟨b, 2, none⟩ = some (.slice B1 m1 e1) ∧ w1.cell? ⟨b, 3, none⟩ = some (.slice B2 m2 e2) ∧ w1.cell? ⟨b, 4, none⟩ = some (.slice B3 m3 e3))) ∧ Sec (k + 1) w1 B1 m1 e1 J1 ∧ Sec (k + 1) w1 B2 m2 e2 J2 ∧ Sec (k + 1) w1 B3 m3 e3 J3) ∧ RB w1 k) ∧ Sv w0 w1) (h0 : w0.heap.size ≤ k) (h1 : g ≠ k) (h2 : b ≠ k) (v0 v1 v2 v3 v4 v5 v6 v7 v8 v9 v10 v11 : Value) : ((((((((((((((((w1.setCell ⟨k, 0, none⟩ v0).setCell ⟨k, 1, none⟩ v1).setCell ⟨k, 2, none⟩ v2).setCell ⟨k, 3, none⟩ v3).setCell ⟨k, 4, none⟩ v4).setCell ⟨k, 5, none⟩ v5).setCell ⟨k, 6, none⟩ v6).setCell ⟨k, 7, none⟩ v7).setCell ⟨k, 8, none⟩ v8).setCell ⟨k, 9, none⟩ v9).setCell ⟨k, 10, none⟩ v10).setCell ⟨k, 11, none⟩ v11).cell? ⟨g, 0, none⟩ = some (.int .i64 h.id) ∧ ((((((((((((w1.setCell ⟨k, 0, none⟩ v0).setCell ⟨k, 1, none⟩ v1).setCell ⟨k, 2, none⟩ v2).setCell ⟨k, 3, none⟩ v3).setCell ⟨k, 4, none⟩ v4).setCell ⟨k, 5, none⟩ v5).setCell ⟨k, 6, none⟩ v6).setCell ⟨k, 7, none⟩ v7).setCell ⟨k, 8, none⟩ v8).setCell ⟨k, 9, none⟩ v9).setCell ⟨k, 10, none⟩ v10).setCell ⟨k, 11, none⟩ v11).cell? ⟨g, 1, none⟩ = some (.bool h.rp) ∧ ((((((((((((w1.setCell ⟨k, 0, none⟩ v0).setCell ⟨k, 1, none⟩ v1).setCell ⟨k, 2, none⟩ v2).setCell ⟨k, 3, none⟩ v3).setCell ⟨k, 4, none⟩ v4).setCell ⟨k, 5, none⟩ v5).setCell ⟨k, 6, none⟩ v6).setCell ⟨k, 7, none⟩ v7).setCell ⟨k, 8, none⟩ v8).setCell ⟨k, 9, none⟩ v9).setCell ⟨k, 10, none⟩ v10).setCell ⟨k, 11, none⟩ v11).cell? ⟨g, 2, none⟩ = some (.bool h.au) ∧ ((((((((((((w1.setCell ⟨k, 0, none⟩ v0).setCell ⟨k, 1, none⟩ v1).setCell ⟨k, 2, none⟩ v2).setCell ⟨k, 3, none⟩ v3).setCell ⟨k, 4, none⟩ v4).setCell ⟨k, 5, none⟩ v5).setCell ⟨k, 6, none⟩ v6).setCell ⟨k, 7, none⟩ v7).setCell ⟨k, 8, none⟩ v8).setCell ⟨k, 9, none⟩ v9).setCell ⟨k, 10, none⟩ v10).setCell ⟨k, 11, none⟩ v11).cell? ⟨g, 3, none⟩ = some (.bool h.ct) ∧ ((((((((((((w1.setCell ⟨k, 0, none⟩ v0).setCell ⟨k, 1, none⟩ v1).setCell ⟨k, 2, none⟩ v2).setCell ⟨k, 3, none⟩ v3).setCell ⟨k, 4, none⟩ v4).setCell ⟨k, 5, none⟩ v5).setCell ⟨k, 6, none⟩ v6).setCell ⟨k, 7, none⟩ v7).setCell ⟨k, 8, none⟩ v8).setCell ⟨k, 9, none⟩ v9).setCell ⟨k, 10, none⟩ v10).setCell ⟨k, 11, none⟩ v11).cell? ⟨g, 4, none⟩ = some (.bool h.wa) ∧ ((((((((((((w1.setCell ⟨k, 0, none⟩ v0).setCell ⟨k, 1, none⟩ v1).setCell ⟨k, 2, none⟩ v2).setCell ⟨k, 3, none⟩ v3).setCell ⟨k, 4, none⟩ v4).setCell ⟨k, 5, none⟩ v5).setCell ⟨k, 6, none⟩ v6).setCell ⟨k, 7, none⟩ v7).setCell ⟨k, 8, none⟩ v8).setCell ⟨k, 9, none⟩ v9).setCell ⟨k, 10, none⟩ v10).setCell ⟨k, 11, none⟩ v11).cell? ⟨g, 5, none⟩ = some (.bool h.ca) ∧ ((((((((((((w1.setCell ⟨k, 0, none⟩ v0).setCell ⟨k, 1, none⟩ v1).setCell ⟨k, 2, none⟩ v2).setCell ⟨k, 3, none⟩ v3).setCell ⟨k, 4, none⟩ v4).setCell ⟨k, 5, none⟩ v5).setCell ⟨k, 6, none⟩ v6).setCell ⟨k, 7, none⟩ v7).setCell ⟨k, 8, none⟩ v8).setCell ⟨k, 9, none⟩ v9).setCell ⟨k, 10, none⟩ v10).setCell ⟨k, 11, none⟩ v11).cell? ⟨g, 6, none⟩ = some (.int .i64 h.code) ∧ ((((((((((((w1.setCell ⟨k, 0, none⟩ v0).setCell ⟨k, 1, none⟩ v1).setCell ⟨k, 2, none⟩ v2).setCell ⟨k, 3, none⟩ v3).setCell ⟨k, 4, none⟩ v4).setCell ⟨k, 5, none⟩ v5).setCell ⟨k, 6, none⟩ v6).setCell ⟨k, 7, none⟩ v7).setCell ⟨k, 8, none⟩ v8).setCell ⟨k, 9, none⟩ v9).setCell ⟨k, 10, none⟩ v10).setCell ⟨k, 11, none⟩ v11).cell? ⟨g, 7, none⟩ = some (.string h.qn) ∧ ((((((((((((w1.setCell ⟨k, 0, none⟩ v0).setCell ⟨k, 1, none⟩ v1).setCell ⟨k, 2, none⟩ v2).setCell ⟨k, 3, none⟩ v3).setCell ⟨k, 4, none⟩ v4).setCell ⟨k, 5, none⟩ v5).setCell ⟨k, 6, none⟩ v6).setCell ⟨k, 7, none⟩ v7).setCell ⟨k, 8, none⟩ v8).setCell ⟨k, 9, none⟩ v9).setCell ⟨k, 10, none⟩ v10).setCell ⟨k, 11, none⟩ v11).cell? ⟨g, 8, none⟩ = some (.int .i64 h.qt) ∧ ((((((((((((w1.setCell ⟨k, 0, none⟩ v0).setCell ⟨k, 1, none⟩ v1).setCell ⟨k, 2, none⟩ v2).setCell ⟨k, 3, none⟩ v3).setCell ⟨k, 4, none⟩ v4).setCell ⟨k, 5, none⟩ v5).setCell ⟨k, 6, none⟩ v6).setCell ⟨k, 7, none⟩ v7).setCell ⟨k, 8, none⟩ v8).setCell ⟨k, 9, none⟩ v9).setCell ⟨k, 10, none⟩ v10).setCell ⟨k, 11, none⟩ v11).cell? ⟨g, 9, none⟩ = some (.slice A1 n1 c1) ∧ ((((((((((((w1.setCell ⟨k, 0, none⟩ v0).setCell ⟨k, 1, none⟩ v1).setCell ⟨k, 2, none⟩ v2).setCell ⟨k, 3, none⟩ v3).setCell ⟨k, 4, none⟩ v4).setCell ⟨k, 5, none⟩ v5).setCell ⟨k, 6, none⟩ v6).setCell ⟨k, 7, none⟩ v7).setCell ⟨k, 8, none⟩ v8).setCell ⟨k, 9, none⟩ v9).setCell ⟨k, 10, none⟩ v10).setCell ⟨k, 11, none⟩ v11).cell? ⟨g, 10, none⟩ = some (.slice A2 n2 c2) ∧ ((((((((((((w1.setCell ⟨k, 0, none⟩ v0).setCell ⟨k, 1, none⟩ v1).setCell ⟨k, 2, none⟩ v2).setCell ⟨k, 3, none⟩ v3).setCell ⟨k, 4, none⟩ v4).setCell ⟨k, 5, none⟩ v5).setCell ⟨k, 6, none⟩ v6).setCell ⟨k, 7, none⟩ v7).setCell ⟨k, 8, none⟩ v8).setCell ⟨k, 9, none⟩ v9).setCell ⟨k, 10, none⟩ v10).setCell ⟨k, 11, none⟩ v11).cell? ⟨g, 11, none⟩ = some (.slice A3 n3 c3)) ∧ (((((((((((((w1.setCell ⟨k, 0, none⟩ v0).setCell ⟨k, 1, none⟩ v1).setCell ⟨k, 2, none⟩ v2).setCell ⟨k, 3, none⟩ v3).setCell ⟨k, 4, none⟩ v4).setCell ⟨k, 5, none⟩ v5).setCell ⟨k, 6, none⟩ v6).setCell ⟨k, 7, none⟩ v7).setCell ⟨k, 8, none⟩ v8).setCell ⟨k, 9, none⟩ v9).setCell ⟨k, 10, none⟩ v10).setCell ⟨k, 11, none⟩ v11).cell? ⟨b, 0, none⟩ = some (.int .i64 d) ∧ ((((((((((((w1.setCell ⟨k, 0, none⟩ v0).setCell ⟨k, 1, none⟩ v1).setCell ⟨k, 2, none⟩ v2).setCell ⟨k, 3, none⟩ v3).setCell ⟨k, 4, none⟩ v4).setCell ⟨k, 5, none⟩ v5).setCell ⟨k, 6, none⟩ v6).setCell ⟨k, 7, none⟩ v7).setCell ⟨k, 8, none⟩ v8).setCell ⟨k, 9, none⟩ v9).setCell ⟨k, 10, none⟩ v10).setCell ⟨k, 11, none⟩ v11).cell? ⟨b, 1, none⟩ = some (.bool a) ∧ ((((((((((((w1.setCell ⟨k, 0, none⟩ v0).setCell ⟨k, 1, none⟩ v1).setCell ⟨k, 2, none⟩ v2).setCell ⟨k, 3, none⟩ v3).setCell ⟨k, 4, none⟩ v4).setCell ⟨k, 5, none⟩ v5).setCell ⟨k, 6, none⟩ v6).setCell ⟨k, 7, none⟩ v7).setCell ⟨k, 8, none⟩ v8).setCell ⟨k, 9, none⟩ v9).setCell ⟨k, 10, none⟩ v10).setCell ⟨k, 11, none⟩ v11).cell? ⟨b, 2, none⟩ = some (.slice B1 m1 e1) ∧ ((((((((((((w1.setCell ⟨k, 0, none⟩ v0).setCell ⟨k, 1, none⟩ v1).setCell ⟨k, 2, none⟩ v2).setCell ⟨k, 3, none⟩ v3).setCell ⟨k, 4, none⟩ v4).setCell ⟨k, 5, none⟩ v5).setCell ⟨k, 6, none⟩ v6).setCell ⟨k, 7, none⟩ v7).setCell ⟨k, 8, none⟩ v8).setCell ⟨k, 9, none⟩ v9).setCell ⟨k, 10, none⟩ v10).setCell ⟨k, 11, none⟩ v11).cell? ⟨b, 3, none⟩ = some (.slice B2 m2 e2) ∧ ((((((((((((w1.setCell ⟨k, 0, none⟩ v0).setCell ⟨k, 1, none⟩ v1).setCell ⟨k, 2, none⟩ v2).setCell ⟨k, 3, none⟩ v3).setCell ⟨k, 4, none⟩ v4).setCell ⟨k, 5, none⟩ v5).setCell ⟨k, 6, none⟩ v6).setCell ⟨k, 7, none⟩ v7).setCell ⟨k, 8, none⟩ v8).setCell ⟨k, 9, none⟩ v9).setCell ⟨k, 10, none⟩ v10).setCell ⟨k, 11, none⟩ v11).cell? ⟨b, 4, none⟩ = some (.slice B3 m3 e3))) ∧ Sec (k + 1) ((((((((((((w1.setCell ⟨k, 0, none⟩ v0).setCell ⟨k, 1, none⟩ v1).setCell ⟨k, 2, none⟩ v2).setCell ⟨k, 3, none⟩ v3).setCell ⟨k, 4, none⟩ v4).setCell ⟨k, 5, none⟩ v5).setCell ⟨k, 6, none⟩ v6).setCell ⟨k, 7, none⟩ v7).setCell ⟨k, 8, none⟩ v8).setCell ⟨k, 9, none⟩ v9).setCell ⟨k, 10, none⟩ v10).setCell ⟨k, 11, none⟩ v11) B1 m1 e1 J1 ∧ Sec (k + 1) ((((((((((((w1.setCell ⟨k, 0, none⟩ v0).setCell ⟨k, 1, none⟩ v1).setCell ⟨k, 2, none⟩ v2).setCell ⟨k, 3, none⟩ v3).setCell ⟨k, 4, none⟩ v4).setCell ⟨k, 5, none⟩ v5).setCell ⟨k, 6, none⟩ v6).setCell ⟨k, 7, none⟩ v7).setCell ⟨k, 8, none⟩ v8).setCell ⟨k, 9, none⟩ v9).setCell ⟨k, 10, none⟩ v10).setCell ⟨k, 11, none⟩ v11) B2 m2 e2 J2 ∧ Sec (k + 1) ((((((((((((w1.setCell ⟨k, 0, none⟩ v0).setCell ⟨k, 1, none⟩ v1).setCell ⟨k, 2, none⟩ v2).setCell ⟨k, 3, none⟩ v3).setCell ⟨k, 4, none⟩ v4).setCell ⟨k, 5, none⟩ v5).setCell ⟨k, 6, none⟩ v6).setCell ⟨k, 7, none⟩ v7).setCell ⟨k, 8, none⟩ v8).setCell ⟨k, 9, none⟩ v9).setCell ⟨k, 10, none⟩ v10).setCell ⟨k, 11, none⟩ v11) B3 m3 e3 J3) ∧ RB ((((((((((((w1.setCell ⟨k, 0, none⟩ v0).setCell ⟨k, 1, none⟩ v1).setCell ⟨k, 2, none⟩ v2).setCell ⟨k, 3, none⟩ v3).setCell ⟨k, 4, none⟩ v4).setCell ⟨k, 5, none⟩ v5).setCell ⟨k, 6, none⟩ v6).setCell ⟨k, 7, none⟩ v7).setCell ⟨k, 8, none⟩ v8).setCell ⟨k, 9, none⟩ v9).setCell ⟨k, 10, none⟩ v10).setCell ⟨k, 11, none⟩ v11) k) ∧ Sv w0 ((((((((((((w1.setCell ⟨k, 0, none⟩ v0).setCell ⟨k, 1, none⟩ v1).setCell ⟨k, 2, none⟩ v2).setCell ⟨k, 3, none⟩ v3).setCell ⟨k, 4, none⟩ v4).setCell ⟨k, 5, none⟩ v5).setCell ⟨k, 6, none⟩ v6).setCell ⟨k, 7, none⟩ v7).setCell ⟨k, 8, none⟩ v8).setCell ⟨k, 9, none⟩ v9).setCell ⟨k, 10, none⟩ v10).setCell ⟨k, 11, none⟩ v11) :=
  (keptI_put (keptI_put (keptI_put (keptI_put (keptI_put (keptI_put (keptI_put (keptI_put (keptI_put (keptI_put (keptI_put (keptI_put m h0 h1 h2 0 v0) h0 h1 h2 1 v1) h0 h1 h2 2 v2) h0 h1 h2 3 v3) h0 h1 h2 4 v4) h0 h1 h2 5 v5) h0 h1 h2 6 v6) h0 h1 h2 7 v7) h0 h1 h2 8 v8) h0 h1 h2 9 v9) h0 h1 h2 10 v10) h0 h1 h2 11 v11)
end

/-- The boxes of a zone, a message and the result. -/
theorem boxes (w : World) (s : ByteArray) (x : Value) (h : Hd) (A1 A2 A3 : Option Addr) (n1 c1 n2 c2 n3 c3 : Nat) (t u v : TypeId) : (Zx (((w.alloc (.cells #[.string s, x] t)).alloc (.cells #[.int .i64 h.id, .bool h.rp, .bool h.au, .bool h.ct, .bool h.wa, .bool h.ca, .int .i64 h.code, .string h.qn, .int .i64 h.qt, .slice A1 n1 c1, .slice A2 n2 c2, .slice A3 n3 c3] u)).alloc (.cells #[.int .i64 0, .bool false, .bool false, .bool false, .bool false, .bool false, .int .i64 0, .string ⟨#[]⟩, .int .i64 0, .slice none 0 0, .slice none 0 0, .slice none 0 0] v)) w.heap.size s x ∧ Mx (((w.alloc (.cells #[.string s, x] t)).alloc (.cells #[.int .i64 h.id, .bool h.rp, .bool h.au, .bool h.ct, .bool h.wa, .bool h.ca, .int .i64 h.code, .string h.qn, .int .i64 h.qt, .slice A1 n1 c1, .slice A2 n2 c2, .slice A3 n3 c3] u)).alloc (.cells #[.int .i64 0, .bool false, .bool false, .bool false, .bool false, .bool false, .int .i64 0, .string ⟨#[]⟩, .int .i64 0, .slice none 0 0, .slice none 0 0, .slice none 0 0] v)) (w.heap.size + 1) h (.slice A1 n1 c1) (.slice A2 n2 c2) (.slice A3 n3 c3)) ∧ Bk (((w.alloc (.cells #[.string s, x] t)).alloc (.cells #[.int .i64 h.id, .bool h.rp, .bool h.au, .bool h.ct, .bool h.wa, .bool h.ca, .int .i64 h.code, .string h.qn, .int .i64 h.qt, .slice A1 n1 c1, .slice A2 n2 c2, .slice A3 n3 c3] u)).alloc (.cells #[.int .i64 0, .bool false, .bool false, .bool false, .bool false, .bool false, .int .i64 0, .string ⟨#[]⟩, .int .i64 0, .slice none 0 0, .slice none 0 0, .slice none 0 0] v)) (w.heap.size + 1 + 1) v (mc zh (.slice none 0 0) (.slice none 0 0) (.slice none 0 0)) ∧ Below w.heap.size w (((w.alloc (.cells #[.string s, x] t)).alloc (.cells #[.int .i64 h.id, .bool h.rp, .bool h.au, .bool h.ct, .bool h.wa, .bool h.ca, .int .i64 h.code, .string h.qn, .int .i64 h.qt, .slice A1 n1 c1, .slice A2 n2 c2, .slice A3 n3 c3] u)).alloc (.cells #[.int .i64 0, .bool false, .bool false, .bool false, .bool false, .bool false, .int .i64 0, .string ⟨#[]⟩, .int .i64 0, .slice none 0 0, .slice none 0 0, .slice none 0 0] v)) := by
  have e1 : (w.alloc (.cells #[.string s, x] t)).heap.size = w.heap.size + 1 := by simp
  have e2 : ((w.alloc (.cells #[.string s, x] t)).alloc (.cells #[.int .i64 h.id, .bool h.rp, .bool h.au, .bool h.ct, .bool h.wa, .bool h.ca, .int .i64 h.code, .string h.qn, .int .i64 h.qt, .slice A1 n1 c1, .slice A2 n2 c2, .slice A3 n3 c3] u)).heap.size = w.heap.size + 1 + 1 := by simp
  have al : Below (w.alloc (.cells #[.string s, x] t)).heap.size (w.alloc (.cells #[.string s, x] t)) ((w.alloc (.cells #[.string s, x] t)).alloc (.cells #[.int .i64 h.id, .bool h.rp, .bool h.au, .bool h.ct, .bool h.wa, .bool h.ca, .int .i64 h.code, .string h.qn, .int .i64 h.qt, .slice A1 n1 c1, .slice A2 n2 c2, .slice A3 n3 c3] u)) := (Below.refl _ _).alloc (Nat.le_refl _) _
  have al2 : Below ((w.alloc (.cells #[.string s, x] t)).alloc (.cells #[.int .i64 h.id, .bool h.rp, .bool h.au, .bool h.ct, .bool h.wa, .bool h.ca, .int .i64 h.code, .string h.qn, .int .i64 h.qt, .slice A1 n1 c1, .slice A2 n2 c2, .slice A3 n3 c3] u)).heap.size ((w.alloc (.cells #[.string s, x] t)).alloc (.cells #[.int .i64 h.id, .bool h.rp, .bool h.au, .bool h.ct, .bool h.wa, .bool h.ca, .int .i64 h.code, .string h.qn, .int .i64 h.qt, .slice A1 n1 c1, .slice A2 n2 c2, .slice A3 n3 c3] u)) (((w.alloc (.cells #[.string s, x] t)).alloc (.cells #[.int .i64 h.id, .bool h.rp, .bool h.au, .bool h.ct, .bool h.wa, .bool h.ca, .int .i64 h.code, .string h.qn, .int .i64 h.qt, .slice A1 n1 c1, .slice A2 n2 c2, .slice A3 n3 c3] u)).alloc (.cells #[.int .i64 0, .bool false, .bool false, .bool false, .bool false, .bool false, .int .i64 0, .string ⟨#[]⟩, .int .i64 0, .slice none 0 0, .slice none 0 0, .slice none 0 0] v)) := (Below.refl _ _).alloc (Nat.le_refl _) _
  have l1 : Below w.heap.size w (w.alloc (.cells #[.string s, x] t)) := (Below.refl _ _).alloc (Nat.le_refl _) _
  have l2 := l1.trans (al.mono l1.size)
  have m := mx_new (w.alloc (.cells #[.string s, x] t)) u h (.slice A1 n1 c1) (.slice A2 n2 c2) (.slice A3 n3 c3)
  rw [e1] at m
  have b := heap_alloc_new ((w.alloc (.cells #[.string s, x] t)).alloc (.cells #[.int .i64 h.id, .bool h.rp, .bool h.au, .bool h.ct, .bool h.wa, .bool h.ca, .int .i64 h.code, .string h.qn, .int .i64 h.qt, .slice A1 n1 c1, .slice A2 n2 c2, .slice A3 n3 c3] u)) (.cells #[.int .i64 0, .bool false, .bool false, .bool false, .bool false, .bool false, .int .i64 0, .string ⟨#[]⟩, .int .i64 0, .slice none 0 0, .slice none 0 0, .slice none 0 0] v)
  rw [e2] at b
  exact ⟨⟨((zx_new w t s x).below al).below al2, m.below al2⟩, b, l2.trans (al2.mono l2.size)⟩

/-- The call returned a reply of the kind k: the first eight records of each section, and turned nothing that was there. -/
def GivesS8 (w : World) (h : Hd) (k : Int) (J1 J2 J3 : List Rec) (e : Ending) (w' : World) : Prop := GivesM w (rph h (rcd k) (aut k)) (m8 J1.length) (m8 J2.length) (m8 J3.length) (J1.take 8) (J2.take 8) (J3.take 8) e w'

set_option maxRecDepth 100000 in
set_option maxHeartbeats 8000000 in
theorem impl (s : ByteArray) (b0 o0 n c : Nat) (l : List Rec) (h : Hd) (A1 A2 A3 : Option Addr) (n1 c1 n2 c2 n3 c3 : Nat) (w : World) (hs : Sr w w.heap.size (some ⟨b0, o0, none⟩) n l) (hn : n ≤ 1048576) (hm : s.size ≤ 400000000) (hq : h.qn.size ≤ 400000000) (hz : ∀ r ∈ l, r.name.size ≤ 400000000) :
    Calls Try.prog 29 #[.agg #[.string s, .slice (some ⟨b0, o0, none⟩) n c], .agg #[.int .i64 h.id, .bool h.rp, .bool h.au, .bool h.ct, .bool h.wa, .bool h.ca, .int .i64 h.code, .string h.qn, .int .i64 h.qt, .slice A1 n1 c1, .slice A2 n2 c2, .slice A3 n3 c3]] w (GivesS8 w h (kd s h.qn h.qt l) (anl (kd s h.qn h.qt l) h.qn h.qt l) (mol (kd s h.qn h.qt l) s h.qn l) (hel (kd s h.qn h.qt l) s h.qn l)) := by
  obtain ⟨⟨hx, hy⟩, hb0, hl0⟩ := boxes w s (.slice (some ⟨b0, o0, none⟩) n c) h A1 A2 A3 n1 c1 n2 c2 n3 c3 32 46 46
  have X0 := Lib.hid hx
  have Y0 := Lib.hid hy
  have R0 := Lib.hid hb0
  have L0 := Lib.hid hl0
  have HS := Lib.hid hs
  have CI := Lib.hid (fun W hW => ContI.impl s h.qn h.qt b0 o0 n c l W hW hn hm hq hz)
  have LA : Hid ((anl (kd s h.qn h.qt l) h.qn h.qt l).length ≤ 1100000000000) := Nat.le_trans (anl_len _ _ _ _) (by have := hs.1; omega)
  have LM : Hid ((mol (kd s h.qn h.qt l) s h.qn l).length ≤ 1100000000000) := Nat.le_trans (mol_len _ _ _ _) (by have := hs.1; omega)
  have LH : Hid ((hel (kd s h.qn h.qt l) s h.qn l).length ≤ 1100000000000) := Nat.le_trans (hel_len _ _ _ _) (by rw [hs.1]; exact Nat.le_trans (Nat.mul_le_mul hn hn) (by decide))
  clear hx hy hb0 hl0 hs hz
  unfold GivesQ at CI
  generalize kd s h.qn h.qt l = kk at *
  generalize anl kk h.qn h.qt l = J1 at *
  generalize mol kk s h.qn l = J2 at *
  generalize hel kk s h.qn l = J3 at *
  generalize hd : rcd kk = d at *
  generalize ha : aut kk = a at *
  have HD := Lib.hid hd
  have HA := Lib.hid ha
  clear hd ha
  obtain ⟨x0, x1⟩ := X0.out
  obtain ⟨y0, y1, y2, y3, y4, y5, y6, y7, y8, y9, y10, y11⟩ := Y0.out
  go_enter Try.func29, Try.ntmps29
  go_wp2_with fail
  refine (CI.out _ (HS.out.on L0.out)).mono ?_
  rintro e w1 ⟨B1, m1, e1, B2, m2, e2, B3, m3, e3, rfl, q1, q2, q3, hl⟩
  have al : Below w1.heap.size w1 (w1.alloc (.cells #[.int .i64 d, .bool a, .slice B1 m1 e1, .slice B2 m2 e2, .slice B3 m3 e3] 64)) := (Below.refl _ _).alloc (Nat.le_refl _) _
  have L1 := Lib.hid (L0.out.trans (hl.mono L0.out.size))
  have L2 := Lib.hid (L1.out.trans (al.mono L1.out.size))
  have Y2 := Lib.hid ((Y0.out.below hl).below al)
  have R2 := Lib.hid ((R0.out.below hl R0.out.lt).below al (R0.out.below hl R0.out.lt).lt)
  have GC : Hid (w.heap.size + 1 + 1 < w1.heap.size) := (R0.out.below hl R0.out.lt).lt
  have C2 : Hid (Bk (w1.alloc (.cells #[.int .i64 d, .bool a, .slice B1 m1 e1, .slice B2 m2 e2, .slice B3 m3 e3] 64)) w1.heap.size 64 [.int .i64 d, .bool a, .slice B1 m1 e1, .slice B2 m2 e2, .slice B3 m3 e3]) := heap_alloc_new w1 _
  have Q1 := Lib.hid ((q1.below al).low (show w.heap.size + 1 + 1 + 1 ≤ _ from R0.out.lt))
  have Q2 := Lib.hid ((q2.below al).low (show w.heap.size + 1 + 1 + 1 ≤ _ from R0.out.lt))
  have Q3 := Lib.hid ((q3.below al).low (show w.heap.size + 1 + 1 + 1 ≤ _ from R0.out.lt))
  clear hl al q1 q2 q3 CI X0 Y0 R0 L0 L1 x0 x1 y0 y1 y2 y3 y4 y5 y6 y7 y8 y9 y10 y11
  go_upto_region 2 with (fail)
  generalize w1.alloc (.cells #[.int .i64 d, .bool a, .slice B1 m1 e1, .slice B2 m2 e2, .slice B3 m3 e3] 64) = w2 at *
  generalize w1.heap.size = gc at *
  have N1 := Q1.out.len
  have N2 := Q2.out.len
  have N3 := Q3.out.len
  have SH1 : Hid (∀ W : World, Calls Try.prog 54 #[.slice B1 m1 e1] W fun e w' => e = .returned (.slice B1 (m8 m1) e1) ∧ Below W.heap.size W w') := fun W => (shortened B1 m1 e1 W (alt Q1.out).1 Q1.out.cap (by have := LA.out; omega)).mono fun e w' ⟨h1, h2⟩ => ⟨h1, h2 ▸ Below.refl _ _⟩
  have SH2 : Hid (∀ W : World, Calls Try.prog 54 #[.slice B2 m2 e2] W fun e w' => e = .returned (.slice B2 (m8 m2) e2) ∧ Below W.heap.size W w') := fun W => (shortened B2 m2 e2 W (alt Q2.out).1 Q2.out.cap (by have := LM.out; omega)).mono fun e w' ⟨h1, h2⟩ => ⟨h1, h2 ▸ Below.refl _ _⟩
  have SH3 : Hid (∀ W : World, Calls Try.prog 54 #[.slice B3 m3 e3] W fun e w' => e = .returned (.slice B3 (m8 m3) e3) ∧ Below W.heap.size W w') := fun W => (shortened B3 m3 e3 W (alt Q3.out).1 Q3.out.cap (by have := LH.out; omega)).mono fun e w' ⟨h1, h2⟩ => ⟨h1, h2 ▸ Below.refl _ _⟩
  have RR : Hid (∀ W : World, ((((W.cell? ⟨w.heap.size + 1, 0, none⟩ = some (.int .i64 h.id) ∧ W.cell? ⟨w.heap.size + 1, 1, none⟩ = some (.bool h.rp) ∧ W.cell? ⟨w.heap.size + 1, 2, none⟩ = some (.bool h.au) ∧ W.cell? ⟨w.heap.size + 1, 3, none⟩ = some (.bool h.ct) ∧ W.cell? ⟨w.heap.size + 1, 4, none⟩ = some (.bool h.wa) ∧ W.cell? ⟨w.heap.size + 1, 5, none⟩ = some (.bool h.ca) ∧ W.cell? ⟨w.heap.size + 1, 6, none⟩ = some (.int .i64 h.code) ∧ W.cell? ⟨w.heap.size + 1, 7, none⟩ = some (.string h.qn) ∧ W.cell? ⟨w.heap.size + 1, 8, none⟩ = some (.int .i64 h.qt) ∧ W.cell? ⟨w.heap.size + 1, 9, none⟩ = some (.slice A1 n1 c1) ∧ W.cell? ⟨w.heap.size + 1, 10, none⟩ = some (.slice A2 n2 c2) ∧ W.cell? ⟨w.heap.size + 1, 11, none⟩ = some (.slice A3 n3 c3)) ∧ (W.cell? ⟨gc, 0, none⟩ = some (.int .i64 d) ∧ W.cell? ⟨gc, 1, none⟩ = some (.bool a) ∧ W.cell? ⟨gc, 2, none⟩ = some (.slice B1 m1 e1) ∧ W.cell? ⟨gc, 3, none⟩ = some (.slice B2 m2 e2) ∧ W.cell? ⟨gc, 4, none⟩ = some (.slice B3 m3 e3))) ∧ Sec (w.heap.size + 1 + 1 + 1) W B1 m1 e1 J1 ∧ Sec (w.heap.size + 1 + 1 + 1) W B2 m2 e2 J2 ∧ Sec (w.heap.size + 1 + 1 + 1) W B3 m3 e3 J3) ∧ RB W (w.heap.size + 1 + 1)) ∧ Sv w W → Calls Try.prog 53 #[.agg #[.int .i64 h.id, .bool h.rp, .bool h.au, .bool h.ct, .bool h.wa, .bool h.ca, .int .i64 h.code, .string h.qn, .int .i64 h.qt, .slice A1 n1 c1, .slice A2 n2 c2, .slice A3 n3 c3], .int .i64 d, .bool a, .slice B1 (m8 m1) e1, .slice B2 (m8 m2) e2, .slice B3 (m8 m3) e3] W (GivesM W (rph h d a) (m8 m1) (m8 m2) (m8 m3) (J1.take 8) (J2.take 8) (J3.take 8))) := fun W hW => RepN.impl h A1 A2 A3 n1 c1 n2 c2 n3 c3 d a B1 (m8 m1) e1 (J1.take 8) B2 (m8 m2) e2 (J2.take 8) B3 (m8 m3) e3 (J3.take 8) W (sr_take hW.1.1.2.1.sr) (by have := m8_le m1; omega) (alt Q1.out).2 (sr_take hW.1.1.2.2.1.sr) (by have := m8_le m2; omega) (alt Q2.out).2 (sr_take hW.1.1.2.2.2.sr) (by have := m8_le m3; omega) (alt Q3.out).2
  have SS0 : ((((w2.cell? ⟨w.heap.size + 1, 0, none⟩ = some (.int .i64 h.id) ∧ w2.cell? ⟨w.heap.size + 1, 1, none⟩ = some (.bool h.rp) ∧ w2.cell? ⟨w.heap.size + 1, 2, none⟩ = some (.bool h.au) ∧ w2.cell? ⟨w.heap.size + 1, 3, none⟩ = some (.bool h.ct) ∧ w2.cell? ⟨w.heap.size + 1, 4, none⟩ = some (.bool h.wa) ∧ w2.cell? ⟨w.heap.size + 1, 5, none⟩ = some (.bool h.ca) ∧ w2.cell? ⟨w.heap.size + 1, 6, none⟩ = some (.int .i64 h.code) ∧ w2.cell? ⟨w.heap.size + 1, 7, none⟩ = some (.string h.qn) ∧ w2.cell? ⟨w.heap.size + 1, 8, none⟩ = some (.int .i64 h.qt) ∧ w2.cell? ⟨w.heap.size + 1, 9, none⟩ = some (.slice A1 n1 c1) ∧ w2.cell? ⟨w.heap.size + 1, 10, none⟩ = some (.slice A2 n2 c2) ∧ w2.cell? ⟨w.heap.size + 1, 11, none⟩ = some (.slice A3 n3 c3)) ∧ (w2.cell? ⟨gc, 0, none⟩ = some (.int .i64 d) ∧ w2.cell? ⟨gc, 1, none⟩ = some (.bool a) ∧ w2.cell? ⟨gc, 2, none⟩ = some (.slice B1 m1 e1) ∧ w2.cell? ⟨gc, 3, none⟩ = some (.slice B2 m2 e2) ∧ w2.cell? ⟨gc, 4, none⟩ = some (.slice B3 m3 e3))) ∧ Sec (w.heap.size + 1 + 1 + 1) w2 B1 m1 e1 J1 ∧ Sec (w.heap.size + 1 + 1 + 1) w2 B2 m2 e2 J2 ∧ Sec (w.heap.size + 1 + 1 + 1) w2 B3 m3 e3 J3) ∧ RB w2 (w.heap.size + 1 + 1)) ∧ Sv w w2 := ⟨⟨⟨⟨Y2.out, C2.out.cell 0, C2.out.cell 1, C2.out.cell 2, C2.out.cell 3, C2.out.cell 4⟩, Q1.out, Q2.out, Q3.out⟩, ⟨_, rfl, R2.out⟩⟩, L2.out⟩
  have ne0 : w.heap.size ≤ w.heap.size + 1 + 1 := by omega
  have ne1 : w.heap.size + 1 ≠ w.heap.size + 1 + 1 := by omega
  have ne2 : gc ≠ w.heap.size + 1 + 1 := by have := GC.out; omega
  clear Y2 C2 Q1 Q2 Q3
  go_region_held3 (fun w' => ((((w'.cell? ⟨w.heap.size + 1, 0, none⟩ = some (.int .i64 h.id) ∧ w'.cell? ⟨w.heap.size + 1, 1, none⟩ = some (.bool h.rp) ∧ w'.cell? ⟨w.heap.size + 1, 2, none⟩ = some (.bool h.au) ∧ w'.cell? ⟨w.heap.size + 1, 3, none⟩ = some (.bool h.ct) ∧ w'.cell? ⟨w.heap.size + 1, 4, none⟩ = some (.bool h.wa) ∧ w'.cell? ⟨w.heap.size + 1, 5, none⟩ = some (.bool h.ca) ∧ w'.cell? ⟨w.heap.size + 1, 6, none⟩ = some (.int .i64 h.code) ∧ w'.cell? ⟨w.heap.size + 1, 7, none⟩ = some (.string h.qn) ∧ w'.cell? ⟨w.heap.size + 1, 8, none⟩ = some (.int .i64 h.qt) ∧ w'.cell? ⟨w.heap.size + 1, 9, none⟩ = some (.slice A1 n1 c1) ∧ w'.cell? ⟨w.heap.size + 1, 10, none⟩ = some (.slice A2 n2 c2) ∧ w'.cell? ⟨w.heap.size + 1, 11, none⟩ = some (.slice A3 n3 c3)) ∧ (w'.cell? ⟨gc, 0, none⟩ = some (.int .i64 d) ∧ w'.cell? ⟨gc, 1, none⟩ = some (.bool a) ∧ w'.cell? ⟨gc, 2, none⟩ = some (.slice B1 m1 e1) ∧ w'.cell? ⟨gc, 3, none⟩ = some (.slice B2 m2 e2) ∧ w'.cell? ⟨gc, 4, none⟩ = some (.slice B3 m3 e3))) ∧ Sec (w.heap.size + 1 + 1 + 1) w' B1 m1 e1 J1 ∧ Sec (w.heap.size + 1 + 1 + 1) w' B2 m2 e2 J2 ∧ Sec (w.heap.size + 1 + 1 + 1) w' B3 m3 e3 J3) ∧ RB w' (w.heap.size + 1 + 1)) ∧ Sv w w')
    (first | with_reducible exact keptI_fil (w1 := w6) (by assumption) ne0 ne1 ne2 _ _ _ _ _ _ _ _ _ _ _ _ | with_reducible exact SS0 | with_reducible assumption | with_reducible exact keptI (by assumption) hl | with_reducible exact keptI_draw (by assumption) | fail)
    (first
      | (go_at_call 54; (with_reducible refine (SH1.out _).mono ?_); rintro e w3 ⟨rfl, hl⟩; have y1 := hl)
      | (go_at_call 54; (with_reducible refine (SH2.out _).mono ?_); rintro e w4 ⟨rfl, hl⟩; have y2 := hl)
      | (go_at_call 54; (with_reducible refine (SH3.out _).mono ?_); rintro e w5 ⟨rfl, hl⟩; have y3 := hl)
      | (go_at_call 53; (with_reducible refine (RR.out _ (by assumption)).mono ?_); rintro e w6 ⟨g1, u1, r1, g2, u2, r2, g3, u3, r3, rfl, hb1, hb2, hb3, hg, h12, h23, hl⟩; have y4 := hl; have HR := (keptI (by assumption) hl).1.2; have p0 := HR.cell 0 (by decide); have f0 := HR.free 0; have p1 := HR.cell 1 (by decide); have f1 := HR.free 1; have p2 := HR.cell 2 (by decide); have f2 := HR.free 2; have p3 := HR.cell 3 (by decide); have f3 := HR.free 3; have p4 := HR.cell 4 (by decide); have f4 := HR.free 4; have p5 := HR.cell 5 (by decide); have f5 := HR.free 5; have p6 := HR.cell 6 (by decide); have f6 := HR.free 6; have p7 := HR.cell 7 (by decide); have f7 := HR.free 7; have p8 := HR.cell 8 (by decide); have f8 := HR.free 8; have p9 := HR.cell 9 (by decide); have f9 := HR.free 9; have p10 := HR.cell 10 (by decide); have f10 := HR.free 10; have p11 := HR.cell 11 (by decide); have f11 := HR.free 11; clear HR)
      | fail)
  rename_i hH
  have a0 : Below w.heap.size w w2.drew := L2.out.drew
  have a1 := a0.trans (y1.mono a0.size)
  have a2 := a1.trans (y2.mono a1.size)
  have a3 := a2.trans (y3.mono a2.size)
  have a4 := a3.trans (y4.mono a3.size)
  have RA : RB w6 (w.heap.size + 1 + 1) := by
    have b0 : RB w2.drew (w.heap.size + 1 + 1) := ⟨_, rfl, R2.out⟩
    exact (((b0.below y1).below y2).below y3).below y4
  have G4 : w.heap.size + 1 + 1 < g1 := Nat.lt_of_lt_of_le (Nat.lt_of_lt_of_le (Nat.lt_of_lt_of_le (Nat.lt_of_lt_of_le (show w.heap.size + 1 + 1 < w2.drew.heap.size from R2.out.lt) y1.size) y2.size) y3.size) hg
  have F := Lib.hid (RA.fil (rph h d a) (.slice (some ⟨g1, 0, none⟩) (m8 m1) u1) (.slice (some ⟨g2, 0, none⟩) (m8 m2) u2) (.slice (some ⟨g3, 0, none⟩) (m8 m3) u3))
  have E := Lib.hid (filM_below a4 (g := w.heap.size + 1 + 1) (by omega) (rph h d a) (.slice (some ⟨g1, 0, none⟩) (m8 m1) u1) (.slice (some ⟨g2, 0, none⟩) (m8 m2) u2) (.slice (some ⟨g3, 0, none⟩) (m8 m3) u3))
  have I1 := Lib.hid (filM_other hb1 (g := w.heap.size + 1 + 1) (by omega) (rph h d a) (.slice (some ⟨g1, 0, none⟩) (m8 m1) u1) (.slice (some ⟨g2, 0, none⟩) (m8 m2) u2) (.slice (some ⟨g3, 0, none⟩) (m8 m3) u3))
  have I2 := Lib.hid (filM_other hb2 (g := w.heap.size + 1 + 1) (by omega) (rph h d a) (.slice (some ⟨g1, 0, none⟩) (m8 m1) u1) (.slice (some ⟨g2, 0, none⟩) (m8 m2) u2) (.slice (some ⟨g3, 0, none⟩) (m8 m3) u3))
  have I3 := Lib.hid (filM_other hb3 (g := w.heap.size + 1 + 1) (by omega) (rph h d a) (.slice (some ⟨g1, 0, none⟩) (m8 m1) u1) (.slice (some ⟨g2, 0, none⟩) (m8 m2) u2) (.slice (some ⟨g3, 0, none⟩) (m8 m3) u3))
  clear hH SS0 SH1 SH2 SH3 RR a0 a1 a2 a3 a4 RA R2 L2 y1 y2 y3 y4 hl hb1 hb2 hb3 p0 f0 p1 f1 p2 f2 p3 f3 p4 f4 p5 f5 p6 f6 p7 f7 p8 f8 p9 f9 p10 f10 p11 f11
  go_wp2
  refine bodyPost_ret (v := .agg #[.int .i64 (rph h d a).id, .bool (rph h d a).rp, .bool (rph h d a).au, .bool (rph h d a).ct, .bool (rph h d a).wa, .bool (rph h d a).ca, .int .i64 (rph h d a).code, .string (rph h d a).qn, .int .i64 (rph h d a).qt, .slice (some ⟨g1, 0, none⟩) (m8 m1) u1, .slice (some ⟨g2, 0, none⟩) (m8 m2) u2, .slice (some ⟨g3, 0, none⟩) (m8 m3) u3]) (res1M rfl F.out rfl) rfl ?_
  unfold GivesS8
  rw [HD.out, HA.out, N1, N2, N3]
  exact ⟨g1, u1, r1, g2, u2, r2, g3, u3, r3, rfl, I1.out, I2.out, I3.out, by omega, h12, h23, E.out⟩

end Go.Proofs.Ytmabbeefeipnaaa.ServI
