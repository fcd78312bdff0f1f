/- What CutOf and InZone do in the model. Condition: fewer than 400000001 records, no name of more than 400000000 bytes. -/
import Derived.Test.YtmabbeefeipnaaaGreatDoorSortZ
import Derived.Test.YtmabbeefeipnaaaGreatDoorUqzMath
import Derived.Test.YtmabbeefeipnaaaGreatDoorServesP1
import Derived.IntWalk
import Derived.Test.YtmabbeefeipnaaaGreatDoorZoneV
import Derived.Test.YtmabbeefeipnaaaGreatDoorZoneH
import Derived.Test.YtmabbeefeipnaaaGreatDoorResZ
import Derived.Deep.RegionLaw
import Derived.Test.YtmabbeefeipnaaaGreatDoorZoneMath
import Derived.Test.YtmabbeefeipnaaaGreatDoorAppS
import Derived.Test.YtmabbeefeipnaaaGreatDoorMemZ
/- What l10Uniq does in the model: the records in order, of alike ones one, and of one key one time to live; the row is the call's own. Condition: fewer than 400000001 records, of at most 400000000 bytes a text. -/
namespace Go.Proofs.YtmabbeefeipnaaaGreatDoor.UniqZ
open Go.RowKit Go.Proofs.YtmabbeefeipnaaaGreatDoor.Mem Go.Proofs.YtmabbeefeipnaaaGreatDoor.MemR Go.Proofs.YtmabbeefeipnaaaGreatDoor.SetMath Go.Proofs.YtmabbeefeipnaaaGreatDoor.NameMath Go.Proofs.YtmabbeefeipnaaaGreatDoor.NameOk Go.Proofs.YtmabbeefeipnaaaGreatDoor.ZoneMath Go.Proofs.YtmabbeefeipnaaaGreatDoor.MemZ Go.Proofs.YtmabbeefeipnaaaGreatDoor.RecOk Go.Proofs.YtmabbeefeipnaaaGreatDoor.LessR Go.Proofs.YtmabbeefeipnaaaGreatDoor.ZokMath Go.Proofs.YtmabbeefeipnaaaGreatDoor.Labels Go.Proofs.YtmabbeefeipnaaaGreatDoor.BoxR Go.Proofs.YtmabbeefeipnaaaGreatDoor.AliI Go.Proofs.YtmabbeefeipnaaaGreatDoor.Under Go.Proofs.YtmabbeefeipnaaaGreatDoor.SrtMath Go.Proofs.YtmabbeefeipnaaaGreatDoor.UqzMath

/-- The call returned a row of its own with these records, and turned nothing that was there. -/
def GivesU (w : World) (l : List Rec) (e : Ending) (w' : World) : Prop :=
  ∃ S g m cap, Srt l S ∧ e = .returned (.slice (some ⟨g, 0, none⟩) m cap) ∧ (uqz S).length = m ∧ w'.ownsRow w.heap.size 40 6 (.slice (some ⟨g, 0, none⟩) m cap) m (fl (uqz S)) ∧ Below w.heap.size w w'

theorem own_set {w : World} {base gb gl n cap : Nat} {L : List Rec} (h : w.ownsRow base 40 6 (.slice (some ⟨gl, 0, none⟩) n cap) n (fl L)) (hb : gl ≠ gb) (j : Nat) (u : Value) : (w.setCell ⟨gb, j, none⟩ u).ownsRow base 40 6 (.slice (some ⟨gl, 0, none⟩) n cap) n (fl L) :=
  h.kept (row := some gb) ⟨rfl, rfl, rfl, by simp [World.setCell], fun k _ hne => Below.heap_setCell _ _ _ _ (fun e => hne (by simp [e]))⟩ (Or.inr (fun e => hb (Option.some.inj e)))

theorem last_at {U : List Rec} {q : Nat} (h : U.length = q + 1) (hq : q < U.length) : U.getLast? = some U[q] := by
  rw [List.getLast?_eq_getElem?, h, Nat.add_sub_cancel, List.getElem?_eq_getElem hq]

set_option maxRecDepth 100000 in
set_option maxHeartbeats 16000000 in
theorem spec (b0 o0 n c : Nat) (l : List Rec) (w : World) (hs : Sr w w.heap.size (some ⟨b0, o0, none⟩) n l) (hn : n ≤ 400000000) (hf : ∀ r ∈ l, Fine r) : Calls Tryz.prog 44 #[.slice (some ⟨b0, o0, none⟩) n c] w (GivesU w l) := by
  have SO := Lib.hid (SortZ.spec b0 o0 n c l w hs hn hf)
  have HLN := Lib.hid hs.1
  clear hs hf
  go_enter Tryz.func44, Tryz.ntmps44
  go_wp2_with fail
  refine SO.out.mono ?_
  rintro e w1 ⟨S, gs, cs, rs, hsrt, rfl, hcs, hgs, hb, hl⟩
  have SR := Lib.hid hsrt
  have HSL : Hid (S.length = n) := show _ = _ by rw [hsrt.length, HLN.out]
  have HS : Hid (Sr w1 w1.heap.size (some ⟨gs, 0, none⟩) n S) := bk_sr hb HSL.out
  have L0 := Lib.hid hl
  have P2 := Lib.hid (AppR.owns_new w1)
  have L2 := Lib.hid ((Below.refl w1.heap.size w1).alloc (Nat.le_refl _) (.cells #[] 40))
  clear hsrt hcs hgs hb hl SO
  go_wp2
  generalize w1.alloc (.cells #[] 40) = w2 at *
  go_loopw [4, 5] (fun out i wr => ∃ (k g m cap : Nat) (U : List Rec), k ≤ n ∧ m ≤ k ∧ i = .int .i64 k ∧ out = .slice (some ⟨g, 0, none⟩) m cap ∧ uqz (S.take k) = U ∧ Hid (wr.ownsRow w1.heap.size 40 6 (.slice (some ⟨g, 0, none⟩) m cap) m (fl U)) ∧ Hid (Below w1.heap.size w1 wr)) (fun _ i _ => n - (intOf i).toNat)
  case atStart => exact ⟨0, w1.heap.size, 0, 0, [], Nat.zero_le _, Nat.le_refl _, rfl, rfl, rfl, P2.out, L2.out⟩
  case round =>
    clear P2 L2
    obtain ⟨k, g, m, cap, U, hk, hm, rfl, rfl, hU, HO, HL⟩ := hrel
    have HU0 := Lib.hid hU
    clear hU
    have HUL : Hid (U.length = m) := show _ = _ by have := HO.out.1; rw [fl_len] at this; omega
    by_cases hlt : k < n
    · obtain ⟨b, off, hA, hbB, hcs⟩ := HS.out.2 (by omega)
      obtain ⟨rfl, rfl⟩ : gs = b ∧ 0 = off := by simp at hA; exact hA
      clear hA
      have hkl : k < S.length := by rw [HSL.out]; exact hlt
      obtain ⟨e0, e1, e2, e3, e4, e5⟩ : Ce wr gs (k * 6) S[k] := by have := (hcs k hkl).below HL.out hbB; rwa [Nat.zero_add] at this
      clear hcs
      have HT : Hid (uqz (S.take (k + 1)) = ust U S[k]) := show _ = _ by rw [uqz_take S k hkl, HU0.out]
      generalize S[k] = r at *
      by_cases hm0 : m = 0
      · have HU : Hid (uqz (S.take (k + 1)) = U ++ [r]) := show _ = _ by
          rw [HT.out, List.eq_nil_of_length_eq_zero (HUL.out.trans hm0), ust_nil]; rfl
        have d0 : decide ((0 : Int) < (m : Int)) = false := by simp; omega
        have d1 : decide (0 < m) = false := by simp; omega
        clear HT HU0 hm0
        go_wp2
        go_quiet (fail)
        have L9 : Hid (Below w1.heap.size w1 ((wr.alloc (.cells #[.string r.name, .int .i64 r.ty, .int .i64 r.ttl, .int .i64 r.n, .string r.host, .string r.text] 40)).drewN nq)) := (HL.out.alloc HL.out.size (.cells #[.string r.name, .int .i64 r.ty, .int .i64 r.ttl, .int .i64 r.n, .string r.host, .string r.text] 40)).trans (drewN_below _ _ _)
        have B9 : Hid (Bk ((wr.alloc (.cells #[.string r.name, .int .i64 r.ty, .int .i64 r.ttl, .int .i64 r.n, .string r.host, .string r.text] 40)).drewN nq) wr.heap.size 40 (rc r)) := heap_alloc_new wr _
        have O9 : Hid (((wr.alloc (.cells #[.string r.name, .int .i64 r.ty, .int .i64 r.ttl, .int .i64 r.n, .string r.host, .string r.text] 40)).drewN nq).ownsRow w1.heap.size 40 6 (.slice (some ⟨g, 0, none⟩) m cap) m (fl U)) := HO.out.alloc (.cells #[.string r.name, .int .i64 r.ty, .int .i64 r.ttl, .int .i64 r.n, .string r.host, .string r.text] 40)
        have N9 : Hid (g < wr.heap.size) := (HO.out.lt g rfl).2
        clear HL HO e0 e1 e2 e3 e4 e5
        generalize (wr.alloc (.cells #[.string r.name, .int .i64 r.ty, .int .i64 r.ttl, .int .i64 r.n, .string r.host, .string r.text] 40)).drewN nq = w9 at *
        generalize wr.heap.size = ga at *
        have b0 : w9.cell? ⟨ga, 0, none⟩ = some (.string r.name) := B9.out.cell 0
        have b1 : w9.cell? ⟨ga, 1, none⟩ = some (.int .i64 r.ty) := B9.out.cell 1
        have b2 : w9.cell? ⟨ga, 2, none⟩ = some (.int .i64 r.ttl) := B9.out.cell 2
        have b3 : w9.cell? ⟨ga, 3, none⟩ = some (.int .i64 r.n) := B9.out.cell 3
        have b4 : w9.cell? ⟨ga, 4, none⟩ = some (.string r.host) := B9.out.cell 4
        have b5 : w9.cell? ⟨ga, 5, none⟩ = some (.string r.text) := B9.out.cell 5
        go_wp2_with (at_builtin; refine SetS.append_at (w := w9) rfl (.tmp 61) (.tmp 63) rfl w1.heap.size g m cap U rfl O9.out r w9.heap.size rfl rfl (by omega) (by have h1 := O9.out.lt g rfl; omega) ?_)
        intro g7 cap7 w7 hown hgrow
        have O7 := Lib.hid hown
        have gge : w1.heap.size ≤ g := (O9.out.lt g rfl).1
        have L7 := Lib.hid ((L9.out.alloc L9.out.size (.cells #[.string r.name, .int .i64 r.ty, .int .i64 r.ttl, .int .i64 r.n, .string r.host, .string r.text] 40)).grown hgrow (Nat.le_trans L9.out.size (by simp)) (fun j hj => by cases hj; exact gge))
        clear hown hgrow b0 b1 b2 b3 b4 b5
        go_wp2
        go_roundw
        case rel => exact ⟨k + 1, g7, m + 1, cap7, _, by omega, by omega, by go_num, rfl, by rw [HU.out], O7.out, L7.out⟩
        case measure => simp [intOf]; omega
      obtain ⟨q, rfl⟩ : ∃ q, m = q + 1 := ⟨m - 1, by omega⟩
      have hql : q < U.length := by rw [HUL.out]; omega
      have HLAST := Lib.hid (last_at HUL.out hql)
      have HC : Hid (Ce wr g (q * 6) U[q]) := by
        obtain ⟨r', hb, _⟩ := bk_of_owns6 HO.out
        exact bk_ce hb q hql
      generalize U[q] = p at *
      have ltg : g < wr.heap.size := (HO.out.lt g rfl).2
      obtain ⟨p0, p1, p2, p3, p4, p5⟩ := HC.out
      have i1 : (0 : Int) < ((q + 1 : Nat) : Int) := by omega
      have i1' : (0 : Int) < (q : Int) + 1 := by omega
      have i2 : ((q + 1 : Nat) : Int) - 1 = (q : Int) := by omega
      have i2' : (q : Int) + 1 - 1 = (q : Int) := by omega
      have i3 : IntKind.i64.wrap (q : Int) = (q : Int) := IntWalk.i64_in _ (by omega)
      have i4 : (q : Int) < (q : Int) + 1 := by omega
      have i5 : (0 : Int) ≤ (q : Int) := by omega
      clear hm0
      by_cases hnm : p.name = r.name
      · have n1 : (p.name.toList == r.name.toList) = true := by rw [hnm]; simp
        have n2 : (p.name.data.toList == r.name.data.toList) = true := by rw [hnm]; simp
        by_cases hty : p.ty = r.ty
        · have t0 : (p.ty == r.ty) = true := by simpa using hty
          have C0 : Hid (Ce (wr.alloc (.cells #[.string r.name, .int .i64 r.ty, .int .i64 r.ttl, .int .i64 r.n, .string r.host, .string r.text] 40)) g (q * 6) p) := HC.out.below ((Below.refl wr.heap.size wr).alloc (Nat.le_refl _) (.cells #[.string r.name, .int .i64 r.ty, .int .i64 r.ttl, .int .i64 r.n, .string r.host, .string r.text] 40)) ltg
          go_wp2
          go_quiet (fail)
          have L9 : Hid (Below w1.heap.size w1 ((wr.alloc (.cells #[.string r.name, .int .i64 r.ty, .int .i64 r.ttl, .int .i64 r.n, .string r.host, .string r.text] 40)).drewN nq)) := (HL.out.alloc HL.out.size (.cells #[.string r.name, .int .i64 r.ty, .int .i64 r.ttl, .int .i64 r.n, .string r.host, .string r.text] 40)).trans (drewN_below _ _ _)
          have B9 : Hid (Bk ((wr.alloc (.cells #[.string r.name, .int .i64 r.ty, .int .i64 r.ttl, .int .i64 r.n, .string r.host, .string r.text] 40)).drewN nq) wr.heap.size 40 (rc r)) := heap_alloc_new wr _
          have O9 : Hid (((wr.alloc (.cells #[.string r.name, .int .i64 r.ty, .int .i64 r.ttl, .int .i64 r.n, .string r.host, .string r.text] 40)).drewN nq).ownsRow w1.heap.size 40 6 (.slice (some ⟨g, 0, none⟩) (q + 1) cap) (q + 1) (fl U)) := HO.out.alloc (.cells #[.string r.name, .int .i64 r.ty, .int .i64 r.ttl, .int .i64 r.n, .string r.host, .string r.text] 40)
          have N9 : Hid (g < wr.heap.size) := (HO.out.lt g rfl).2
          clear HL HO e0 e1 e2 e3 e4 e5
          have C0 : Hid (Ce ((wr.alloc (.cells #[.string r.name, .int .i64 r.ty, .int .i64 r.ttl, .int .i64 r.n, .string r.host, .string r.text] 40)).drewN nq) g (q * 6) p) := C0.out
          clear p0 p1 p2 p3 p4 p5
          generalize (wr.alloc (.cells #[.string r.name, .int .i64 r.ty, .int .i64 r.ttl, .int .i64 r.n, .string r.host, .string r.text] 40)).drewN nq = w9 at *
          generalize wr.heap.size = ga at *
          have C9 : Hid (Ce w9 g (q * 6) p) := C0.out
          obtain ⟨p0, p1, p2, p3, p4, p5⟩ := C9.out
          have f2 := B9.out.free 2
          have b2 : w9.cell? ⟨ga, 2, none⟩ = some (.int .i64 r.ttl) := B9.out.cell 2
          go_upto_region 10 with (fail)
          have NE : Hid (g ≠ ga) := Nat.ne_of_lt N9.out
          have B10 : Hid (Bk (w9.setCell ⟨ga, 2, none⟩ (.int .i64 p.ttl)) ga 40 (rc (SetMath.wr p.ttl r))) := B9.out.set 2 _
          have O10 := Lib.hid (own_set O9.out NE.out 2 (.int .i64 p.ttl))
          have L10 : Hid (Below w1.heap.size w1 (w9.setCell ⟨ga, 2, none⟩ (.int .i64 p.ttl))) := L9.out.setCell (p := ⟨ga, 2, none⟩) (Nat.le_trans (O9.out.lt g rfl).1 (Nat.le_of_lt N9.out)) _
          have C10 : Hid (Ce (w9.setCell ⟨ga, 2, none⟩ (.int .i64 p.ttl)) g (q * 6) p) := C9.out.move fun a ha => World.cell?_of_block (Below.heap_setCell _ _ _ _ (by rw [ha]; exact NE.out))
          clear p0 p1 p2 p3 p4 p5 f2 b2 B9 O9 L9 C9 C0
          generalize w9.setCell ⟨ga, 2, none⟩ (.int .i64 p.ttl) = w10 at *
          obtain ⟨p0, p1, p2, p3, p4, p5⟩ := C10.out
          have b0 : w10.cell? ⟨ga, 0, none⟩ = some (.string r.name) := B10.out.cell 0
          have b1 : w10.cell? ⟨ga, 1, none⟩ = some (.int .i64 r.ty) := B10.out.cell 1
          have b2 : w10.cell? ⟨ga, 2, none⟩ = some (.int .i64 p.ttl) := B10.out.cell 2
          have b3 : w10.cell? ⟨ga, 3, none⟩ = some (.int .i64 r.n) := B10.out.cell 3
          have b4 : w10.cell? ⟨ga, 4, none⟩ = some (.string r.host) := B10.out.cell 4
          have b5 : w10.cell? ⟨ga, 5, none⟩ = some (.string r.text) := B10.out.cell 5
          by_cases hpr : p = SetMath.wr p.ttl r
          · have HU : Hid (uqz (S.take (k + 1)) = U) := show _ = _ by rw [HT.out, ust_same HLAST.out ⟨hnm, hty⟩ hpr]
            have qe : ∀ w : World, Sem.run Tryz.prog (binOp .eql 40 (.agg #[.string p.name, .int .i64 p.ty, .int .i64 p.ttl, .int .i64 p.n, .string p.host, .string p.text]) (.agg #[.string r.name, .int .i64 r.ty, .int .i64 p.ttl, .int .i64 r.n, .string r.host, .string r.text])) w = .ok (.bool true) w := fun w => by
              have h := EqlR.eql_same p w
              have e : (.agg #[.string p.name, .int .i64 p.ty, .int .i64 p.ttl, .int .i64 p.n, .string p.host, .string p.text] : Value) = .agg #[.string r.name, .int .i64 r.ty, .int .i64 p.ttl, .int .i64 r.n, .string r.host, .string r.text] := by
                have := congrArg (fun x : Rec => (.agg #[.string x.name, .int .i64 x.ty, .int .i64 x.ttl, .int .i64 x.n, .string x.host, .string x.text] : Value)) hpr
                exact this
              exact (congrArg (fun v => Sem.run Tryz.prog (binOp .eql 40 (.agg #[.string p.name, .int .i64 p.ty, .int .i64 p.ttl, .int .i64 p.n, .string p.host, .string p.text]) v) w) e.symm).trans h
            clear HT HU0 hnm hty hpr
            go_quiet (fail)
            have O11 : Hid ((w10.drewN nq).ownsRow w1.heap.size 40 6 (.slice (some ⟨g, 0, none⟩) (q + 1) cap) (q + 1) (fl U)) := O10.out
            have L11 : Hid (Below w1.heap.size w1 (w10.drewN nq)) := L10.out.trans (drewN_below _ _ _)
            clear p0 p1 p2 p3 p4 p5 b0 b1 b2 b3 b4 b5 qe
            go_wp2
            go_roundw
            case rel => exact ⟨k + 1, g, q + 1, cap, U, by omega, by omega, by go_num, rfl, HU.out, O11.out, L11.out⟩
            case measure => simp [intOf]; omega
          · have HU : Hid (uqz (S.take (k + 1)) = U ++ [Rec.mk r.name r.ty p.ttl r.n r.host r.text]) := show _ = _ by rw [HT.out, ust_key HLAST.out ⟨hnm, hty⟩ hpr]; rfl
            have qe : ∀ w : World, Sem.run Tryz.prog (binOp .eql 40 (.agg #[.string p.name, .int .i64 p.ty, .int .i64 p.ttl, .int .i64 p.n, .string p.host, .string p.text]) (.agg #[.string r.name, .int .i64 r.ty, .int .i64 p.ttl, .int .i64 r.n, .string r.host, .string r.text])) w = .ok (.bool false) w := by
              have h := EqlR.eql_diff hpr
              simp only [SetMath.wr] at h
              exact h
            clear HT HU0 hnm hty hpr
            go_quiet (fail)
            have O11 : Hid ((w10.drewN nq).ownsRow w1.heap.size 40 6 (.slice (some ⟨g, 0, none⟩) (q + 1) cap) (q + 1) (fl U)) := O10.out
            have L11 : Hid (Below w1.heap.size w1 (w10.drewN nq)) := L10.out.trans (drewN_below _ _ _)
            have B11 : Hid (Bk (w10.drewN nq) ga 40 (rc (SetMath.wr p.ttl r))) := B10.out
            clear p0 p1 p2 p3 p4 p5 b0 b1 b2 b3 b4 b5 qe O10 L10 B10 C10
            generalize w10.drewN nq = w11 at *
            have b0 : w11.cell? ⟨ga, 0, none⟩ = some (.string r.name) := B11.out.cell 0
            have b1 : w11.cell? ⟨ga, 1, none⟩ = some (.int .i64 r.ty) := B11.out.cell 1
            have b2 : w11.cell? ⟨ga, 2, none⟩ = some (.int .i64 p.ttl) := B11.out.cell 2
            have b3 : w11.cell? ⟨ga, 3, none⟩ = some (.int .i64 r.n) := B11.out.cell 3
            have b4 : w11.cell? ⟨ga, 4, none⟩ = some (.string r.host) := B11.out.cell 4
            have b5 : w11.cell? ⟨ga, 5, none⟩ = some (.string r.text) := B11.out.cell 5
            go_wp2_with (at_builtin; refine SetS.append_at (w := w11) rfl (.tmp 61) (.tmp 63) rfl w1.heap.size g (q + 1) cap U rfl O11.out (Rec.mk r.name r.ty p.ttl r.n r.host r.text) w11.heap.size rfl rfl (by omega) (by have h1 := O11.out.lt g rfl; omega) ?_)
            intro g7 cap7 w7 hown hgrow
            have O7 := Lib.hid hown
            have gge : w1.heap.size ≤ g := (O11.out.lt g rfl).1
            have L7 := Lib.hid ((L11.out.alloc L11.out.size (.cells #[.string r.name, .int .i64 r.ty, .int .i64 p.ttl, .int .i64 r.n, .string r.host, .string r.text] 40)).grown hgrow (Nat.le_trans L11.out.size (by simp)) (fun j hj => by cases hj; exact gge))
            clear hown hgrow b0 b1 b2 b3 b4 b5
            go_wp2
            go_roundw
            case rel => exact ⟨k + 1, g7, q + 1 + 1, cap7, _, by omega, by omega, by go_num, rfl, by rw [HU.out], O7.out, L7.out⟩
            case measure => simp [intOf]; omega
        · have t0 : (p.ty == r.ty) = false := by simpa using hty
          have HU : Hid (uqz (S.take (k + 1)) = U ++ [r]) := show _ = _ by rw [HT.out, ust_other HLAST.out (fun h => hty h.2)]
          clear HT HU0 hnm hty HLAST
          go_wp2
          go_quiet (fail)
          have L9 : Hid (Below w1.heap.size w1 ((wr.alloc (.cells #[.string r.name, .int .i64 r.ty, .int .i64 r.ttl, .int .i64 r.n, .string r.host, .string r.text] 40)).drewN nq)) := (HL.out.alloc HL.out.size (.cells #[.string r.name, .int .i64 r.ty, .int .i64 r.ttl, .int .i64 r.n, .string r.host, .string r.text] 40)).trans (drewN_below _ _ _)
          have B9 : Hid (Bk ((wr.alloc (.cells #[.string r.name, .int .i64 r.ty, .int .i64 r.ttl, .int .i64 r.n, .string r.host, .string r.text] 40)).drewN nq) wr.heap.size 40 (rc r)) := heap_alloc_new wr _
          have O9 : Hid (((wr.alloc (.cells #[.string r.name, .int .i64 r.ty, .int .i64 r.ttl, .int .i64 r.n, .string r.host, .string r.text] 40)).drewN nq).ownsRow w1.heap.size 40 6 (.slice (some ⟨g, 0, none⟩) (q + 1) cap) (q + 1) (fl U)) := HO.out.alloc (.cells #[.string r.name, .int .i64 r.ty, .int .i64 r.ttl, .int .i64 r.n, .string r.host, .string r.text] 40)
          have N9 : Hid (g < wr.heap.size) := (HO.out.lt g rfl).2
          clear HL HO e0 e1 e2 e3 e4 e5
          generalize (wr.alloc (.cells #[.string r.name, .int .i64 r.ty, .int .i64 r.ttl, .int .i64 r.n, .string r.host, .string r.text] 40)).drewN nq = w9 at *
          generalize wr.heap.size = ga at *
          clear p0 p1 p2 p3 p4 p5
          have b0 : w9.cell? ⟨ga, 0, none⟩ = some (.string r.name) := B9.out.cell 0
          have b1 : w9.cell? ⟨ga, 1, none⟩ = some (.int .i64 r.ty) := B9.out.cell 1
          have b2 : w9.cell? ⟨ga, 2, none⟩ = some (.int .i64 r.ttl) := B9.out.cell 2
          have b3 : w9.cell? ⟨ga, 3, none⟩ = some (.int .i64 r.n) := B9.out.cell 3
          have b4 : w9.cell? ⟨ga, 4, none⟩ = some (.string r.host) := B9.out.cell 4
          have b5 : w9.cell? ⟨ga, 5, none⟩ = some (.string r.text) := B9.out.cell 5
          go_wp2_with (at_builtin; refine SetS.append_at (w := w9) rfl (.tmp 61) (.tmp 63) rfl w1.heap.size g (q + 1) cap U rfl O9.out r w9.heap.size rfl rfl (by omega) (by have h1 := O9.out.lt g rfl; omega) ?_)
          intro g7 cap7 w7 hown hgrow
          have O7 := Lib.hid hown
          have gge : w1.heap.size ≤ g := (O9.out.lt g rfl).1
          have L7 := Lib.hid ((L9.out.alloc L9.out.size (.cells #[.string r.name, .int .i64 r.ty, .int .i64 r.ttl, .int .i64 r.n, .string r.host, .string r.text] 40)).grown hgrow (Nat.le_trans L9.out.size (by simp)) (fun j hj => by cases hj; exact gge))
          clear hown hgrow b0 b1 b2 b3 b4 b5
          go_wp2
          go_roundw
          case rel => exact ⟨k + 1, g7, q + 1 + 1, cap7, _, by omega, by omega, by go_num, rfl, by rw [HU.out], O7.out, L7.out⟩
          case measure => simp [intOf]; omega
      · have n1 : (p.name.toList == r.name.toList) = false := text_ne hnm
        have n2 : (p.name.data.toList == r.name.data.toList) = false := text_ne2 hnm
        have HU : Hid (uqz (S.take (k + 1)) = U ++ [r]) := show _ = _ by rw [HT.out, ust_other HLAST.out (fun h => hnm h.1)]
        clear HT HU0 hnm HLAST
        go_wp2
        go_quiet (fail)
        have L9 : Hid (Below w1.heap.size w1 ((wr.alloc (.cells #[.string r.name, .int .i64 r.ty, .int .i64 r.ttl, .int .i64 r.n, .string r.host, .string r.text] 40)).drewN nq)) := (HL.out.alloc HL.out.size (.cells #[.string r.name, .int .i64 r.ty, .int .i64 r.ttl, .int .i64 r.n, .string r.host, .string r.text] 40)).trans (drewN_below _ _ _)
        have B9 : Hid (Bk ((wr.alloc (.cells #[.string r.name, .int .i64 r.ty, .int .i64 r.ttl, .int .i64 r.n, .string r.host, .string r.text] 40)).drewN nq) wr.heap.size 40 (rc r)) := heap_alloc_new wr _
        have O9 : Hid (((wr.alloc (.cells #[.string r.name, .int .i64 r.ty, .int .i64 r.ttl, .int .i64 r.n, .string r.host, .string r.text] 40)).drewN nq).ownsRow w1.heap.size 40 6 (.slice (some ⟨g, 0, none⟩) (q + 1) cap) (q + 1) (fl U)) := HO.out.alloc (.cells #[.string r.name, .int .i64 r.ty, .int .i64 r.ttl, .int .i64 r.n, .string r.host, .string r.text] 40)
        have N9 : Hid (g < wr.heap.size) := (HO.out.lt g rfl).2
        clear HL HO e0 e1 e2 e3 e4 e5
        generalize (wr.alloc (.cells #[.string r.name, .int .i64 r.ty, .int .i64 r.ttl, .int .i64 r.n, .string r.host, .string r.text] 40)).drewN nq = w9 at *
        generalize wr.heap.size = ga at *
        clear p0 p1 p2 p3 p4 p5
        have b0 : w9.cell? ⟨ga, 0, none⟩ = some (.string r.name) := B9.out.cell 0
        have b1 : w9.cell? ⟨ga, 1, none⟩ = some (.int .i64 r.ty) := B9.out.cell 1
        have b2 : w9.cell? ⟨ga, 2, none⟩ = some (.int .i64 r.ttl) := B9.out.cell 2
        have b3 : w9.cell? ⟨ga, 3, none⟩ = some (.int .i64 r.n) := B9.out.cell 3
        have b4 : w9.cell? ⟨ga, 4, none⟩ = some (.string r.host) := B9.out.cell 4
        have b5 : w9.cell? ⟨ga, 5, none⟩ = some (.string r.text) := B9.out.cell 5
        go_wp2_with (at_builtin; refine SetS.append_at (w := w9) rfl (.tmp 61) (.tmp 63) rfl w1.heap.size g (q + 1) cap U rfl O9.out r w9.heap.size rfl rfl (by omega) (by have h1 := O9.out.lt g rfl; omega) ?_)
        intro g7 cap7 w7 hown hgrow
        have O7 := Lib.hid hown
        have gge : w1.heap.size ≤ g := (O9.out.lt g rfl).1
        have L7 := Lib.hid ((L9.out.alloc L9.out.size (.cells #[.string r.name, .int .i64 r.ty, .int .i64 r.ttl, .int .i64 r.n, .string r.host, .string r.text] 40)).grown hgrow (Nat.le_trans L9.out.size (by simp)) (fun j hj => by cases hj; exact gge))
        clear hown hgrow b0 b1 b2 b3 b4 b5
        go_wp2
        go_roundw
        case rel => exact ⟨k + 1, g7, q + 1 + 1, cap7, _, by omega, by omega, by go_num, rfl, by rw [HU.out], O7.out, L7.out⟩
        case measure => simp [intOf]; omega
    · obtain rfl : n = k := by omega
      rw [take_all HSL.out] at HU0
      go_wp2
      go_ret
      have ho := HO.out
      rw [← HU0.out] at ho HUL
      exact ⟨S, g, m, cap, SR.out, rfl, HUL.out, MapK.own_mono ho L0.out.size, L0.out.trans (HL.out.mono L0.out.size)⟩

end Go.Proofs.YtmabbeefeipnaaaGreatDoor.UniqZ

/- What the model's draw of a zone does: a zone of the records of ZoneL, in order, in a row of its own; nothing that was there is turned but the cursor. -/
namespace Go.Proofs.YtmabbeefeipnaaaGreatDoor.ZoneD
open Go.RowKit Go.Proofs.YtmabbeefeipnaaaGreatDoor.Mem Go.Proofs.YtmabbeefeipnaaaGreatDoor.MemR Go.Proofs.YtmabbeefeipnaaaGreatDoor.MemZ Go.Proofs.YtmabbeefeipnaaaGreatDoor.BoxR Go.Proofs.YtmabbeefeipnaaaGreatDoor.ResR Go.Proofs.YtmabbeefeipnaaaGreatDoor.ResZ Go.Proofs.YtmabbeefeipnaaaGreatDoor.Draw Go.Proofs.YtmabbeefeipnaaaGreatDoor.DrawL Go.Proofs.YtmabbeefeipnaaaGreatDoor.DrawR Go.Proofs.YtmabbeefeipnaaaGreatDoor.LessR Go.Proofs.YtmabbeefeipnaaaGreatDoor.SrtMath Go.Proofs.YtmabbeefeipnaaaGreatDoor.ZoneL Go.Proofs.YtmabbeefeipnaaaGreatDoor.ZoneV

/-- A zone that is drawn, in a row of its own behind the cursor; the cursor moved, nothing else turned. -/
def Zd (w : World) (g : Nat) (e : Ending) (w' : World) : Prop :=
  ∃ (t h : Int) (a b c : Bool) (gl m cap : Nat), (t, h) ∈ ts ∧ e = .returned (.agg #[.string ⟨#[99, 111, 109]⟩, .slice (some ⟨gl, 0, none⟩) m cap]) ∧ (zs t h a b c).length = m ∧ w'.ownsRow w.heap.size 40 6 (.slice (some ⟨gl, 0, none⟩) m cap) m (fl (zs t h a b c)) ∧ Cur w' g ∧ w.grownBy w' (some g)

def tl : List Int := [5, 60, 300]

theorem half {t : Int} (h : t ∈ tl) : ∃ x, (t, x) ∈ ts := by
  simp only [tl, List.mem_cons, List.not_mem_nil, or_false] at h
  rcases h with rfl | rfl | rfl
  · exact ⟨2, by simp [ts]⟩
  · exact ⟨30, by simp [ts]⟩
  · exact ⟨150, by simp [ts]⟩

theorem fine_all : ∀ p ∈ ts, ∀ a b c : Bool, ∀ r ∈ zb p.1 p.2 a b c, r.name.size ≤ 60 ∧ r.host.size ≤ 60 ∧ r.text.size ≤ 60 := by decide +kernel

theorem fine {t h : Int} (ht : (t, h) ∈ ts) (a b c : Bool) : ∀ r ∈ zb t h a b c, Fine r := fun r hr => by
  have := fine_all (t, h) ht a b c r hr
  exact ⟨by omega, by omega⟩

set_option maxRecDepth 100000 in
set_option maxHeartbeats 16000000 in
theorem zone_any (g : Nat) (w : World) (hc : Cur w g) : Calls Tryz.prog 16 #[.pointer (some ⟨g, 0, none⟩)] w (Zd w g) := by
  have GL := Lib.hid hc.lt
  have HC := Lib.hid hc
  clear hc
  have R0 : Hid (Bk (w.alloc (.cells #[.string ⟨#[]⟩, .slice none 0 0] 26)) w.heap.size 26 (zc ⟨#[]⟩ (.slice none 0 0))) := heap_alloc_new w _
  have G0 := Lib.hid (World.grownBy_alloc w (.cells #[.string ⟨#[]⟩, .slice none 0 0] 26) (some g))
  have C0 := Lib.hid (HC.out.alloc (.cells #[.string ⟨#[]⟩, .slice none 0 0] 26))
  have Z0 : Hid (w.heap.size < (w.alloc (.cells #[.string ⟨#[]⟩, .slice none 0 0] 26)).heap.size) := by show _ < _; simp
  clear HC
  go_enter Tryz.func16, Tryz.ntmps16
  go_upto_region 1 with (fail)
  generalize w.alloc (.cells #[.string ⟨#[]⟩, .slice none 0 0] 26) = w0 at *
  go_wp2_with fail
  refine (l1Int_any g w0.heap.size 3 tl _ (C0.out.alloc _) (bk_ints w0 tl _ rfl) (Nat.ne_of_gt C0.out.lt) rfl (by omega) (by omega)).mono ?_
  rintro e w1 ⟨t, rfl, ht, hc1, hg1⟩
  obtain ⟨h, hth⟩ := half ht
  have HT := Lib.hid hth
  have GA := Lib.hid (grown_trans (World.grownBy_alloc w0 _ (some g)) hg1)
  have C1 := Lib.hid hc1
  have G1 := Lib.hid (grown_trans G0.out GA.out)
  have R1 := Lib.hid (R0.out.grown GA.out (fun e => by have h1 := GL.out; have h2 : w.heap.size = g := Option.some.inj e; omega))
  have Z1 : Hid (w.heap.size < w1.heap.size) := Nat.lt_of_lt_of_le Z0.out GA.out.size
  clear ht hth hc1 hg1 GA C0 G0 R0 Z0
  go_wp2_with fail
  refine (ZoneH.l10Start ⟨#[99, 111, 109]⟩ t h (List.mem_cons_of_mem _ HT.out) w1).mono ?_
  rintro e w2 ⟨rfl, hl⟩
  have C2 := Lib.hid (cur_below C1.out hl)
  have G2 := Lib.hid (grown_below G1.out hl)
  have R2 := Lib.hid (R1.out.below hl R1.out.lt)
  have Z2 : Hid (w.heap.size < w2.heap.size) := Nat.lt_of_lt_of_le Z1.out hl.size
  clear hl C1 G1 R1 Z1
  go_wp2_with fail
  refine (ZoneH.l10Server ⟨#[99, 111, 109]⟩ ⟨#[110, 115, 46, 99, 111, 109]⟩ t w2).mono ?_
  rintro e w3 ⟨rfl, hl⟩
  have C3 := Lib.hid (cur_below C2.out hl)
  have G3 := Lib.hid (grown_below G2.out hl)
  have R3 := Lib.hid (R2.out.below hl R2.out.lt)
  have Z3 : Hid (w.heap.size < w3.heap.size) := Nat.lt_of_lt_of_le Z2.out hl.size
  clear hl C2 G2 R2 Z2
  go_wp2_with fail
  refine (ZoneH.l10Addr ⟨#[110, 115, 46, 99, 111, 109]⟩ 2 t w3).mono ?_
  rintro e w4 ⟨rfl, hl⟩
  have C4 := Lib.hid (cur_below C3.out hl)
  have G4 := Lib.hid (grown_below G3.out hl)
  have R4 := Lib.hid (R3.out.below hl R3.out.lt)
  have Z4 : Hid (w.heap.size < w4.heap.size) := Nat.lt_of_lt_of_le Z3.out hl.size
  clear hl C3 G3 R3 Z3
  have B5 : Hid (Bk (w4.alloc (.cells #[.string ⟨#[99, 111, 109]⟩, .int .i64 6, .int .i64 t, .int .i64 h, .string ⟨#[]⟩, .string ⟨#[]⟩, .string ⟨#[99, 111, 109]⟩, .int .i64 2, .int .i64 t, .int .i64 0, .string ⟨#[110, 115, 46, 99, 111, 109]⟩, .string ⟨#[]⟩, .string ⟨#[110, 115, 46, 99, 111, 109]⟩, .int .i64 1, .int .i64 t, .int .i64 2, .string ⟨#[]⟩, .string ⟨#[]⟩] 40)) w4.heap.size 40 (fl [(Rec.mk ⟨#[99, 111, 109]⟩ 6 t h ⟨#[]⟩ ⟨#[]⟩), (Rec.mk ⟨#[99, 111, 109]⟩ 2 t 0 ⟨#[110, 115, 46, 99, 111, 109]⟩ ⟨#[]⟩), (Rec.mk ⟨#[110, 115, 46, 99, 111, 109]⟩ 1 t 2 ⟨#[]⟩ ⟨#[]⟩)])) := heap_alloc_new w4 _
  have C5 := Lib.hid (C4.out.alloc (.cells #[.string ⟨#[99, 111, 109]⟩, .int .i64 6, .int .i64 t, .int .i64 h, .string ⟨#[]⟩, .string ⟨#[]⟩, .string ⟨#[99, 111, 109]⟩, .int .i64 2, .int .i64 t, .int .i64 0, .string ⟨#[110, 115, 46, 99, 111, 109]⟩, .string ⟨#[]⟩, .string ⟨#[110, 115, 46, 99, 111, 109]⟩, .int .i64 1, .int .i64 t, .int .i64 2, .string ⟨#[]⟩, .string ⟨#[]⟩] 40))
  have G5 := Lib.hid (grown_trans G4.out (World.grownBy_alloc w4 (.cells #[.string ⟨#[99, 111, 109]⟩, .int .i64 6, .int .i64 t, .int .i64 h, .string ⟨#[]⟩, .string ⟨#[]⟩, .string ⟨#[99, 111, 109]⟩, .int .i64 2, .int .i64 t, .int .i64 0, .string ⟨#[110, 115, 46, 99, 111, 109]⟩, .string ⟨#[]⟩, .string ⟨#[110, 115, 46, 99, 111, 109]⟩, .int .i64 1, .int .i64 t, .int .i64 2, .string ⟨#[]⟩, .string ⟨#[]⟩] 40) (some g)))
  have R5 := Lib.hid (R4.out.alloc (.cells #[.string ⟨#[99, 111, 109]⟩, .int .i64 6, .int .i64 t, .int .i64 h, .string ⟨#[]⟩, .string ⟨#[]⟩, .string ⟨#[99, 111, 109]⟩, .int .i64 2, .int .i64 t, .int .i64 0, .string ⟨#[110, 115, 46, 99, 111, 109]⟩, .string ⟨#[]⟩, .string ⟨#[110, 115, 46, 99, 111, 109]⟩, .int .i64 1, .int .i64 t, .int .i64 2, .string ⟨#[]⟩, .string ⟨#[]⟩] 40))
  have Z5 : Hid (w.heap.size < (w4.alloc (.cells #[.string ⟨#[99, 111, 109]⟩, .int .i64 6, .int .i64 t, .int .i64 h, .string ⟨#[]⟩, .string ⟨#[]⟩, .string ⟨#[99, 111, 109]⟩, .int .i64 2, .int .i64 t, .int .i64 0, .string ⟨#[110, 115, 46, 99, 111, 109]⟩, .string ⟨#[]⟩, .string ⟨#[110, 115, 46, 99, 111, 109]⟩, .int .i64 1, .int .i64 t, .int .i64 2, .string ⟨#[]⟩, .string ⟨#[]⟩] 40)).heap.size) := by show _ < _; have := Z4.out; simp; omega
  have O5 : Hid ((w4.alloc (.cells #[.string ⟨#[99, 111, 109]⟩, .int .i64 6, .int .i64 t, .int .i64 h, .string ⟨#[]⟩, .string ⟨#[]⟩, .string ⟨#[99, 111, 109]⟩, .int .i64 2, .int .i64 t, .int .i64 0, .string ⟨#[110, 115, 46, 99, 111, 109]⟩, .string ⟨#[]⟩, .string ⟨#[110, 115, 46, 99, 111, 109]⟩, .int .i64 1, .int .i64 t, .int .i64 2, .string ⟨#[]⟩, .string ⟨#[]⟩] 40)).ownsRow (w.heap.size + 1) 40 6 (.slice (some ⟨w4.heap.size, 0, none⟩) 3 3) 3 (fl (zb t h false false false))) := owns6 B5.out Z4.out rfl (by decide)
  clear C4 G4 R4 Z4 B5
  go_upto_region 3 with (fail)
  generalize w4.alloc (.cells #[.string ⟨#[99, 111, 109]⟩, .int .i64 6, .int .i64 t, .int .i64 h, .string ⟨#[]⟩, .string ⟨#[]⟩, .string ⟨#[99, 111, 109]⟩, .int .i64 2, .int .i64 t, .int .i64 0, .string ⟨#[110, 115, 46, 99, 111, 109]⟩, .string ⟨#[]⟩, .string ⟨#[110, 115, 46, 99, 111, 109]⟩, .int .i64 1, .int .i64 t, .int .i64 2, .string ⟨#[]⟩, .string ⟨#[]⟩] 40) = w5 at *
  generalize w4.heap.size = gl at *
  go_wp2_with fail
  refine (l1Once_any g 2 _ C5.out (by omega) (by omega)).mono ?_
  rintro e w6 ⟨bb, rfl, hc9, hg9⟩
  have C6 := Lib.hid hc9
  have G6 := Lib.hid (grown_trans G5.out hg9)
  have R6 := Lib.hid (R5.out.grown hg9 (fun e => by have h1 := GL.out; have h2 : w.heap.size = g := Option.some.inj e; omega))
  have O6 := Lib.hid (own_far O5.out hg9 (Nat.lt_succ_of_lt GL.out))
  have Z6 : Hid (w.heap.size < w6.heap.size) := Nat.lt_of_lt_of_le Z5.out hg9.size
  clear hc9 hg9 C5 G5 R5 O5 Z5
  cases bb with
  | true =>
    go_wp2_with fail
    refine (ZoneH.l10Server ⟨#[101, 120, 46, 99, 111, 109]⟩ ⟨#[110, 115, 46, 101, 120, 46, 99, 111, 109]⟩ t w6).mono ?_
    rintro e w7 ⟨rfl, hl⟩
    have C7 := Lib.hid (cur_below C6.out hl)
    have G7 := Lib.hid (grown_below G6.out hl)
    have R7 := Lib.hid (R6.out.below hl R6.out.lt)
    have Z7 : Hid (w.heap.size < w7.heap.size) := Nat.lt_of_lt_of_le Z6.out hl.size
    have O7 := Lib.hid (own_below O6.out hl)
    clear hl C6 G6 R6 Z6 O6
    go_wp2_with fail
    refine (ZoneH.l10Addr ⟨#[110, 115, 46, 101, 120, 46, 99, 111, 109]⟩ 3 t w7).mono ?_
    rintro e w8 ⟨rfl, hl⟩
    have C8 := Lib.hid (cur_below C7.out hl)
    have G8 := Lib.hid (grown_below G7.out hl)
    have R8 := Lib.hid (R7.out.below hl R7.out.lt)
    have Z8 : Hid (w.heap.size < w8.heap.size) := Nat.lt_of_lt_of_le Z7.out hl.size
    have O8 := Lib.hid (own_below O7.out hl)
    clear hl C7 G7 R7 Z7 O7
    have B9 : Hid (Bk (w8.alloc (.cells #[.string ⟨#[101, 120, 46, 99, 111, 109]⟩, .int .i64 2, .int .i64 t, .int .i64 0, .string ⟨#[110, 115, 46, 101, 120, 46, 99, 111, 109]⟩, .string ⟨#[]⟩, .string ⟨#[110, 115, 46, 101, 120, 46, 99, 111, 109]⟩, .int .i64 1, .int .i64 t, .int .i64 3, .string ⟨#[]⟩, .string ⟨#[]⟩] 40)) w8.heap.size 40 (fl [(Rec.mk ⟨#[101, 120, 46, 99, 111, 109]⟩ 2 t 0 ⟨#[110, 115, 46, 101, 120, 46, 99, 111, 109]⟩ ⟨#[]⟩), (Rec.mk ⟨#[110, 115, 46, 101, 120, 46, 99, 111, 109]⟩ 1 t 3 ⟨#[]⟩ ⟨#[]⟩)])) := heap_alloc_new w8 _
    have C9 := Lib.hid (C8.out.alloc (.cells #[.string ⟨#[101, 120, 46, 99, 111, 109]⟩, .int .i64 2, .int .i64 t, .int .i64 0, .string ⟨#[110, 115, 46, 101, 120, 46, 99, 111, 109]⟩, .string ⟨#[]⟩, .string ⟨#[110, 115, 46, 101, 120, 46, 99, 111, 109]⟩, .int .i64 1, .int .i64 t, .int .i64 3, .string ⟨#[]⟩, .string ⟨#[]⟩] 40))
    have G9 := Lib.hid (grown_trans G8.out (World.grownBy_alloc w8 (.cells #[.string ⟨#[101, 120, 46, 99, 111, 109]⟩, .int .i64 2, .int .i64 t, .int .i64 0, .string ⟨#[110, 115, 46, 101, 120, 46, 99, 111, 109]⟩, .string ⟨#[]⟩, .string ⟨#[110, 115, 46, 101, 120, 46, 99, 111, 109]⟩, .int .i64 1, .int .i64 t, .int .i64 3, .string ⟨#[]⟩, .string ⟨#[]⟩] 40) (some g)))
    have R9 := Lib.hid (R8.out.alloc (.cells #[.string ⟨#[101, 120, 46, 99, 111, 109]⟩, .int .i64 2, .int .i64 t, .int .i64 0, .string ⟨#[110, 115, 46, 101, 120, 46, 99, 111, 109]⟩, .string ⟨#[]⟩, .string ⟨#[110, 115, 46, 101, 120, 46, 99, 111, 109]⟩, .int .i64 1, .int .i64 t, .int .i64 3, .string ⟨#[]⟩, .string ⟨#[]⟩] 40))
    have Z9 : Hid (w.heap.size < (w8.alloc (.cells #[.string ⟨#[101, 120, 46, 99, 111, 109]⟩, .int .i64 2, .int .i64 t, .int .i64 0, .string ⟨#[110, 115, 46, 101, 120, 46, 99, 111, 109]⟩, .string ⟨#[]⟩, .string ⟨#[110, 115, 46, 101, 120, 46, 99, 111, 109]⟩, .int .i64 1, .int .i64 t, .int .i64 3, .string ⟨#[]⟩, .string ⟨#[]⟩] 40)).heap.size) := by show _ < _; have := Z8.out; simp; omega
    have O9 := Lib.hid (O8.out.alloc (.cells #[.string ⟨#[101, 120, 46, 99, 111, 109]⟩, .int .i64 2, .int .i64 t, .int .i64 0, .string ⟨#[110, 115, 46, 101, 120, 46, 99, 111, 109]⟩, .string ⟨#[]⟩, .string ⟨#[110, 115, 46, 101, 120, 46, 99, 111, 109]⟩, .int .i64 1, .int .i64 t, .int .i64 3, .string ⟨#[]⟩, .string ⟨#[]⟩] 40))
    have S9 : Hid (Sr (w8.alloc (.cells #[.string ⟨#[101, 120, 46, 99, 111, 109]⟩, .int .i64 2, .int .i64 t, .int .i64 0, .string ⟨#[110, 115, 46, 101, 120, 46, 99, 111, 109]⟩, .string ⟨#[]⟩, .string ⟨#[110, 115, 46, 101, 120, 46, 99, 111, 109]⟩, .int .i64 1, .int .i64 t, .int .i64 3, .string ⟨#[]⟩, .string ⟨#[]⟩] 40)) (w8.alloc (.cells #[.string ⟨#[101, 120, 46, 99, 111, 109]⟩, .int .i64 2, .int .i64 t, .int .i64 0, .string ⟨#[110, 115, 46, 101, 120, 46, 99, 111, 109]⟩, .string ⟨#[]⟩, .string ⟨#[110, 115, 46, 101, 120, 46, 99, 111, 109]⟩, .int .i64 1, .int .i64 t, .int .i64 3, .string ⟨#[]⟩, .string ⟨#[]⟩] 40)).heap.size (some ⟨w8.heap.size, 0, none⟩) 2 [(Rec.mk ⟨#[101, 120, 46, 99, 111, 109]⟩ 2 t 0 ⟨#[110, 115, 46, 101, 120, 46, 99, 111, 109]⟩ ⟨#[]⟩), (Rec.mk ⟨#[110, 115, 46, 101, 120, 46, 99, 111, 109]⟩ 1 t 3 ⟨#[]⟩ ⟨#[]⟩)]) := bk_sr0 B9.out rfl
    go_wp2_with (at_builtin; refine AppR.append_recs (w := w8.alloc (.cells #[.string ⟨#[101, 120, 46, 99, 111, 109]⟩, .int .i64 2, .int .i64 t, .int .i64 0, .string ⟨#[110, 115, 46, 101, 120, 46, 99, 111, 109]⟩, .string ⟨#[]⟩, .string ⟨#[110, 115, 46, 101, 120, 46, 99, 111, 109]⟩, .int .i64 1, .int .i64 t, .int .i64 3, .string ⟨#[]⟩, .string ⟨#[]⟩] 40)) rfl (.tmp 17) (.tmp 22) rfl (w.heap.size + 1) gl 3 3 (zb t h false false false) rfl O9.out w8.heap.size 0 2 2 _ [(Rec.mk ⟨#[101, 120, 46, 99, 111, 109]⟩ 2 t 0 ⟨#[110, 115, 46, 101, 120, 46, 99, 111, 109]⟩ ⟨#[]⟩), (Rec.mk ⟨#[110, 115, 46, 101, 120, 46, 99, 111, 109]⟩ 1 t 3 ⟨#[]⟩ ⟨#[]⟩)] rfl S9.out (by omega) (by omega) (by have := Z9.out; omega) ?_)
    intro gq10 cq10 w10 hown hgrow
    have O10 := Lib.hid hown
    have C10 := Lib.hid (cur_far C9.out O9.out hgrow (by have := GL.out; omega))
    have gge : w.heap.size + 1 ≤ gl := (O9.out.lt gl rfl).1
    have G10 := Lib.hid (grown_far G9.out hgrow (by omega))
    have R10 := Lib.hid (R9.out.grown hgrow (fun e => by have h2 : w.heap.size = gl := Option.some.inj e; omega))
    have Z10 : Hid (w.heap.size < w10.heap.size) := Nat.lt_of_lt_of_le Z9.out hgrow.size
    clear hown hgrow gge C9 G9 R9 Z9 O9 B9 S9 C8 G8 R8 Z8 O8
    have OE : Hid (w10.ownsRow (w.heap.size + 1) 40 6 (.slice (some ⟨gq10, 0, none⟩) 5 cq10) 5 (fl (zb t h true false false))) := O10.out
    clear O10
    have O10 := OE
    clear OE
    go_wp2_with fail
    refine (l1Once_any g 2 _ C10.out (by omega) (by omega)).mono ?_
    rintro e w11 ⟨bb, rfl, hc9, hg9⟩
    have C11 := Lib.hid hc9
    have G11 := Lib.hid (grown_trans G10.out hg9)
    have R11 := Lib.hid (R10.out.grown hg9 (fun e => by have h1 := GL.out; have h2 : w.heap.size = g := Option.some.inj e; omega))
    have O11 := Lib.hid (own_far O10.out hg9 (Nat.lt_succ_of_lt GL.out))
    have Z11 : Hid (w.heap.size < w11.heap.size) := Nat.lt_of_lt_of_le Z10.out hg9.size
    clear hc9 hg9 C10 G10 R10 O10 Z10
    cases bb with
    | true =>
      have B12 : Hid (Bk (w11.alloc (.cells #[.string ⟨#[119, 119, 119, 46, 99, 111, 109]⟩, .int .i64 5, .int .i64 9, .int .i64 0, .string ⟨#[97, 46, 111, 114, 103]⟩, .string ⟨#[]⟩] 40)) w11.heap.size 40 (fl [(Rec.mk ⟨#[119, 119, 119, 46, 99, 111, 109]⟩ 5 9 0 ⟨#[97, 46, 111, 114, 103]⟩ ⟨#[]⟩)])) := heap_alloc_new w11 _
      have C12 := Lib.hid (C11.out.alloc (.cells #[.string ⟨#[119, 119, 119, 46, 99, 111, 109]⟩, .int .i64 5, .int .i64 9, .int .i64 0, .string ⟨#[97, 46, 111, 114, 103]⟩, .string ⟨#[]⟩] 40))
      have G12 := Lib.hid (grown_trans G11.out (World.grownBy_alloc w11 (.cells #[.string ⟨#[119, 119, 119, 46, 99, 111, 109]⟩, .int .i64 5, .int .i64 9, .int .i64 0, .string ⟨#[97, 46, 111, 114, 103]⟩, .string ⟨#[]⟩] 40) (some g)))
      have R12 := Lib.hid (R11.out.alloc (.cells #[.string ⟨#[119, 119, 119, 46, 99, 111, 109]⟩, .int .i64 5, .int .i64 9, .int .i64 0, .string ⟨#[97, 46, 111, 114, 103]⟩, .string ⟨#[]⟩] 40))
      have Z12 : Hid (w.heap.size < (w11.alloc (.cells #[.string ⟨#[119, 119, 119, 46, 99, 111, 109]⟩, .int .i64 5, .int .i64 9, .int .i64 0, .string ⟨#[97, 46, 111, 114, 103]⟩, .string ⟨#[]⟩] 40)).heap.size) := by show _ < _; have := Z11.out; simp; omega
      have O12 := Lib.hid (O11.out.alloc (.cells #[.string ⟨#[119, 119, 119, 46, 99, 111, 109]⟩, .int .i64 5, .int .i64 9, .int .i64 0, .string ⟨#[97, 46, 111, 114, 103]⟩, .string ⟨#[]⟩] 40))
      have S12 : Hid (Sr (w11.alloc (.cells #[.string ⟨#[119, 119, 119, 46, 99, 111, 109]⟩, .int .i64 5, .int .i64 9, .int .i64 0, .string ⟨#[97, 46, 111, 114, 103]⟩, .string ⟨#[]⟩] 40)) (w11.alloc (.cells #[.string ⟨#[119, 119, 119, 46, 99, 111, 109]⟩, .int .i64 5, .int .i64 9, .int .i64 0, .string ⟨#[97, 46, 111, 114, 103]⟩, .string ⟨#[]⟩] 40)).heap.size (some ⟨w11.heap.size, 0, none⟩) 1 [(Rec.mk ⟨#[119, 119, 119, 46, 99, 111, 109]⟩ 5 9 0 ⟨#[97, 46, 111, 114, 103]⟩ ⟨#[]⟩)]) := bk_sr0 B12.out rfl
      go_wp2_with (at_builtin; refine AppR.append_recs (w := w11.alloc (.cells #[.string ⟨#[119, 119, 119, 46, 99, 111, 109]⟩, .int .i64 5, .int .i64 9, .int .i64 0, .string ⟨#[97, 46, 111, 114, 103]⟩, .string ⟨#[]⟩] 40)) rfl (.tmp 26) (.tmp 28) rfl (w.heap.size + 1) gq10 5 cq10 (zb t h true false false) rfl O12.out w11.heap.size 0 1 1 _ [(Rec.mk ⟨#[119, 119, 119, 46, 99, 111, 109]⟩ 5 9 0 ⟨#[97, 46, 111, 114, 103]⟩ ⟨#[]⟩)] rfl S12.out (by omega) (by omega) (by have := Z12.out; omega) ?_)
      intro gq13 cq13 w13 hown hgrow
      have O13 := Lib.hid hown
      have C13 := Lib.hid (cur_far C12.out O12.out hgrow (by have := GL.out; omega))
      have gge : w.heap.size + 1 ≤ gq10 := (O12.out.lt gq10 rfl).1
      have G13 := Lib.hid (grown_far G12.out hgrow (by omega))
      have R13 := Lib.hid (R12.out.grown hgrow (fun e => by have h2 : w.heap.size = gq10 := Option.some.inj e; omega))
      have Z13 : Hid (w.heap.size < w13.heap.size) := Nat.lt_of_lt_of_le Z12.out hgrow.size
      clear hown hgrow gge C12 G12 R12 Z12 O12 B12 S12 C11 G11 R11 Z11 O11
      have OE : Hid (w13.ownsRow (w.heap.size + 1) 40 6 (.slice (some ⟨gq13, 0, none⟩) 6 cq13) 6 (fl (zb t h true true false))) := O13.out
      clear O13
      have O13 := OE
      clear OE
      go_wp2_with fail
      refine (l1Once_any g 2 _ C13.out (by omega) (by omega)).mono ?_
      rintro e w14 ⟨bb, rfl, hc9, hg9⟩
      have C14 := Lib.hid hc9
      have G14 := Lib.hid (grown_trans G13.out hg9)
      have R14 := Lib.hid (R13.out.grown hg9 (fun e => by have h1 := GL.out; have h2 : w.heap.size = g := Option.some.inj e; omega))
      have O14 := Lib.hid (own_far O13.out hg9 (Nat.lt_succ_of_lt GL.out))
      have Z14 : Hid (w.heap.size < w14.heap.size) := Nat.lt_of_lt_of_le Z13.out hg9.size
      clear hc9 hg9 C13 G13 R13 O13 Z13
      cases bb with
      | true =>
        go_wp2_with fail
        refine (ZoneH.l10Addr ⟨#[98, 46, 97, 46, 99, 111, 109]⟩ 8 9 w14).mono ?_
        rintro e w15 ⟨rfl, hl⟩
        have C15 := Lib.hid (cur_below C14.out hl)
        have G15 := Lib.hid (grown_below G14.out hl)
        have R15 := Lib.hid (R14.out.below hl R14.out.lt)
        have Z15 : Hid (w.heap.size < w15.heap.size) := Nat.lt_of_lt_of_le Z14.out hl.size
        have O15 := Lib.hid (own_below O14.out hl)
        clear hl C14 G14 R14 Z14 O14
        have B16 : Hid (Bk (w15.alloc (.cells #[.string ⟨#[116, 46, 99, 111, 109]⟩, .int .i64 16, .int .i64 7, .int .i64 0, .string ⟨#[]⟩, .string ⟨#[104, 105]⟩, .string ⟨#[98, 46, 97, 46, 99, 111, 109]⟩, .int .i64 1, .int .i64 9, .int .i64 8, .string ⟨#[]⟩, .string ⟨#[]⟩] 40)) w15.heap.size 40 (fl [(Rec.mk ⟨#[116, 46, 99, 111, 109]⟩ 16 7 0 ⟨#[]⟩ ⟨#[104, 105]⟩), (Rec.mk ⟨#[98, 46, 97, 46, 99, 111, 109]⟩ 1 9 8 ⟨#[]⟩ ⟨#[]⟩)])) := heap_alloc_new w15 _
        have C16 := Lib.hid (C15.out.alloc (.cells #[.string ⟨#[116, 46, 99, 111, 109]⟩, .int .i64 16, .int .i64 7, .int .i64 0, .string ⟨#[]⟩, .string ⟨#[104, 105]⟩, .string ⟨#[98, 46, 97, 46, 99, 111, 109]⟩, .int .i64 1, .int .i64 9, .int .i64 8, .string ⟨#[]⟩, .string ⟨#[]⟩] 40))
        have G16 := Lib.hid (grown_trans G15.out (World.grownBy_alloc w15 (.cells #[.string ⟨#[116, 46, 99, 111, 109]⟩, .int .i64 16, .int .i64 7, .int .i64 0, .string ⟨#[]⟩, .string ⟨#[104, 105]⟩, .string ⟨#[98, 46, 97, 46, 99, 111, 109]⟩, .int .i64 1, .int .i64 9, .int .i64 8, .string ⟨#[]⟩, .string ⟨#[]⟩] 40) (some g)))
        have R16 := Lib.hid (R15.out.alloc (.cells #[.string ⟨#[116, 46, 99, 111, 109]⟩, .int .i64 16, .int .i64 7, .int .i64 0, .string ⟨#[]⟩, .string ⟨#[104, 105]⟩, .string ⟨#[98, 46, 97, 46, 99, 111, 109]⟩, .int .i64 1, .int .i64 9, .int .i64 8, .string ⟨#[]⟩, .string ⟨#[]⟩] 40))
        have Z16 : Hid (w.heap.size < (w15.alloc (.cells #[.string ⟨#[116, 46, 99, 111, 109]⟩, .int .i64 16, .int .i64 7, .int .i64 0, .string ⟨#[]⟩, .string ⟨#[104, 105]⟩, .string ⟨#[98, 46, 97, 46, 99, 111, 109]⟩, .int .i64 1, .int .i64 9, .int .i64 8, .string ⟨#[]⟩, .string ⟨#[]⟩] 40)).heap.size) := by show _ < _; have := Z15.out; simp; omega
        have O16 := Lib.hid (O15.out.alloc (.cells #[.string ⟨#[116, 46, 99, 111, 109]⟩, .int .i64 16, .int .i64 7, .int .i64 0, .string ⟨#[]⟩, .string ⟨#[104, 105]⟩, .string ⟨#[98, 46, 97, 46, 99, 111, 109]⟩, .int .i64 1, .int .i64 9, .int .i64 8, .string ⟨#[]⟩, .string ⟨#[]⟩] 40))
        have S16 : Hid (Sr (w15.alloc (.cells #[.string ⟨#[116, 46, 99, 111, 109]⟩, .int .i64 16, .int .i64 7, .int .i64 0, .string ⟨#[]⟩, .string ⟨#[104, 105]⟩, .string ⟨#[98, 46, 97, 46, 99, 111, 109]⟩, .int .i64 1, .int .i64 9, .int .i64 8, .string ⟨#[]⟩, .string ⟨#[]⟩] 40)) (w15.alloc (.cells #[.string ⟨#[116, 46, 99, 111, 109]⟩, .int .i64 16, .int .i64 7, .int .i64 0, .string ⟨#[]⟩, .string ⟨#[104, 105]⟩, .string ⟨#[98, 46, 97, 46, 99, 111, 109]⟩, .int .i64 1, .int .i64 9, .int .i64 8, .string ⟨#[]⟩, .string ⟨#[]⟩] 40)).heap.size (some ⟨w15.heap.size, 0, none⟩) 2 [(Rec.mk ⟨#[116, 46, 99, 111, 109]⟩ 16 7 0 ⟨#[]⟩ ⟨#[104, 105]⟩), (Rec.mk ⟨#[98, 46, 97, 46, 99, 111, 109]⟩ 1 9 8 ⟨#[]⟩ ⟨#[]⟩)]) := bk_sr0 B16.out rfl
        go_wp2_with (at_builtin; refine AppR.append_recs (w := w15.alloc (.cells #[.string ⟨#[116, 46, 99, 111, 109]⟩, .int .i64 16, .int .i64 7, .int .i64 0, .string ⟨#[]⟩, .string ⟨#[104, 105]⟩, .string ⟨#[98, 46, 97, 46, 99, 111, 109]⟩, .int .i64 1, .int .i64 9, .int .i64 8, .string ⟨#[]⟩, .string ⟨#[]⟩] 40)) rfl (.tmp 32) (.tmp 35) rfl (w.heap.size + 1) gq13 6 cq13 (zb t h true true false) rfl O16.out w15.heap.size 0 2 2 _ [(Rec.mk ⟨#[116, 46, 99, 111, 109]⟩ 16 7 0 ⟨#[]⟩ ⟨#[104, 105]⟩), (Rec.mk ⟨#[98, 46, 97, 46, 99, 111, 109]⟩ 1 9 8 ⟨#[]⟩ ⟨#[]⟩)] rfl S16.out (by omega) (by omega) (by have := Z16.out; omega) ?_)
        intro gq17 cq17 w17 hown hgrow
        have O17 := Lib.hid hown
        have C17 := Lib.hid (cur_far C16.out O16.out hgrow (by have := GL.out; omega))
        have gge : w.heap.size + 1 ≤ gq13 := (O16.out.lt gq13 rfl).1
        have G17 := Lib.hid (grown_far G16.out hgrow (by omega))
        have R17 := Lib.hid (R16.out.grown hgrow (fun e => by have h2 : w.heap.size = gq13 := Option.some.inj e; omega))
        have Z17 : Hid (w.heap.size < w17.heap.size) := Nat.lt_of_lt_of_le Z16.out hgrow.size
        clear hown hgrow gge C16 G16 R16 Z16 O16 B16 S16 C15 G15 R15 Z15 O15
        have OE : Hid (w17.ownsRow (w.heap.size + 1) 40 6 (.slice (some ⟨gq17, 0, none⟩) 8 cq17) 8 (fl (zb t h true true true))) := O17.out
        clear O17
        have O17 := OE
        clear OE
        have SL : Hid (Sr w17 w17.heap.size (some ⟨gq17, 0, none⟩) 8 (zb t h true true true)) := own_sr O17.out
        go_wp2_with fail
        refine (UniqZ.spec gq17 0 8 cq17 (zb t h true true true) w17 SL.out (by omega) (fine HT.out true true true)).mono ?_
        rintro e w18 ⟨S, gs, ms, cs, hsrt, rfl, hlm, hown, hl⟩
        have hS : S = zs t h true true true := hsrt.unique (srt HT.out true true true)
        subst hS
        rw [thin HT.out] at hlm hown
        have HM := Lib.hid hlm
        have O18 := Lib.hid hown
        have C18 := Lib.hid (cur_below C17.out hl)
        have G18 := Lib.hid (grown_below G17.out hl)
        have R18 := Lib.hid (R17.out.below hl R17.out.lt)
        have NG : Hid (gs ≠ w.heap.size) := show _ ≠ _ from fun e => by have h1 := (O18.out.lt gs rfl).1; have h2 := Z17.out; omega
        have BG : Hid (w.heap.size ≤ w17.heap.size) := Nat.le_of_lt Z17.out
        clear hsrt hlm hown hl SL O17 C17 G17 R17 Z17
        have r0 : w18.cell? ⟨w.heap.size, 0, none⟩ = some (.string ⟨#[]⟩) := R18.out.cell 0
        have r1 : w18.cell? ⟨w.heap.size, 1, none⟩ = some (.slice none 0 0) := R18.out.cell 1
        have q0 := R18.out.free 0
        have q1 := R18.out.free 1
        have F := Lib.hid (filZ_bk R18.out ⟨#[99, 111, 109]⟩ (.slice (some ⟨gs, 0, none⟩) ms cs))
        have OF := Lib.hid (own_filZ O18.out NG.out ⟨#[99, 111, 109]⟩ (.slice (some ⟨gs, 0, none⟩) ms cs))
        have CF := Lib.hid (cur_filZ C18.out GL.out ⟨#[99, 111, 109]⟩ (.slice (some ⟨gs, 0, none⟩) ms cs))
        have GF := Lib.hid (grown_filZ G18.out (Nat.le_refl _) ⟨#[99, 111, 109]⟩ (.slice (some ⟨gs, 0, none⟩) ms cs))
        go_wp2
        exact bodyPost_ret (v := .agg #[.string ⟨#[99, 111, 109]⟩, .slice (some ⟨gs, 0, none⟩) ms cs]) (resZ1 rfl F.out rfl) rfl ⟨t, h, true, true, true, gs, ms, cs, HT.out, rfl, HM.out, MapK.own_mono OF.out BG.out, CF.out, GF.out⟩
      | false =>

        have SL : Hid (Sr w14 w14.heap.size (some ⟨gq13, 0, none⟩) 6 (zb t h true true false)) := own_sr O14.out
        go_wp2_with fail
        refine (UniqZ.spec gq13 0 6 cq13 (zb t h true true false) w14 SL.out (by omega) (fine HT.out true true false)).mono ?_
        rintro e w19 ⟨S, gs, ms, cs, hsrt, rfl, hlm, hown, hl⟩
        have hS : S = zs t h true true false := hsrt.unique (srt HT.out true true false)
        subst hS
        rw [thin HT.out] at hlm hown
        have HM := Lib.hid hlm
        have O19 := Lib.hid hown
        have C19 := Lib.hid (cur_below C14.out hl)
        have G19 := Lib.hid (grown_below G14.out hl)
        have R19 := Lib.hid (R14.out.below hl R14.out.lt)
        have NG : Hid (gs ≠ w.heap.size) := show _ ≠ _ from fun e => by have h1 := (O19.out.lt gs rfl).1; have h2 := Z14.out; omega
        have BG : Hid (w.heap.size ≤ w14.heap.size) := Nat.le_of_lt Z14.out
        clear hsrt hlm hown hl SL O14 C14 G14 R14 Z14
        have r0 : w19.cell? ⟨w.heap.size, 0, none⟩ = some (.string ⟨#[]⟩) := R19.out.cell 0
        have r1 : w19.cell? ⟨w.heap.size, 1, none⟩ = some (.slice none 0 0) := R19.out.cell 1
        have q0 := R19.out.free 0
        have q1 := R19.out.free 1
        have F := Lib.hid (filZ_bk R19.out ⟨#[99, 111, 109]⟩ (.slice (some ⟨gs, 0, none⟩) ms cs))
        have OF := Lib.hid (own_filZ O19.out NG.out ⟨#[99, 111, 109]⟩ (.slice (some ⟨gs, 0, none⟩) ms cs))
        have CF := Lib.hid (cur_filZ C19.out GL.out ⟨#[99, 111, 109]⟩ (.slice (some ⟨gs, 0, none⟩) ms cs))
        have GF := Lib.hid (grown_filZ G19.out (Nat.le_refl _) ⟨#[99, 111, 109]⟩ (.slice (some ⟨gs, 0, none⟩) ms cs))
        go_wp2
        exact bodyPost_ret (v := .agg #[.string ⟨#[99, 111, 109]⟩, .slice (some ⟨gs, 0, none⟩) ms cs]) (resZ1 rfl F.out rfl) rfl ⟨t, h, true, true, false, gs, ms, cs, HT.out, rfl, HM.out, MapK.own_mono OF.out BG.out, CF.out, GF.out⟩
    | false =>

      go_wp2_with fail
      refine (l1Once_any g 2 _ C11.out (by omega) (by omega)).mono ?_
      rintro e w20 ⟨bb, rfl, hc9, hg9⟩
      have C20 := Lib.hid hc9
      have G20 := Lib.hid (grown_trans G11.out hg9)
      have R20 := Lib.hid (R11.out.grown hg9 (fun e => by have h1 := GL.out; have h2 : w.heap.size = g := Option.some.inj e; omega))
      have O20 := Lib.hid (own_far O11.out hg9 (Nat.lt_succ_of_lt GL.out))
      have Z20 : Hid (w.heap.size < w20.heap.size) := Nat.lt_of_lt_of_le Z11.out hg9.size
      clear hc9 hg9 C11 G11 R11 O11 Z11
      cases bb with
      | true =>
        go_wp2_with fail
        refine (ZoneH.l10Addr ⟨#[98, 46, 97, 46, 99, 111, 109]⟩ 8 9 w20).mono ?_
        rintro e w21 ⟨rfl, hl⟩
        have C21 := Lib.hid (cur_below C20.out hl)
        have G21 := Lib.hid (grown_below G20.out hl)
        have R21 := Lib.hid (R20.out.below hl R20.out.lt)
        have Z21 : Hid (w.heap.size < w21.heap.size) := Nat.lt_of_lt_of_le Z20.out hl.size
        have O21 := Lib.hid (own_below O20.out hl)
        clear hl C20 G20 R20 Z20 O20
        have B22 : Hid (Bk (w21.alloc (.cells #[.string ⟨#[116, 46, 99, 111, 109]⟩, .int .i64 16, .int .i64 7, .int .i64 0, .string ⟨#[]⟩, .string ⟨#[104, 105]⟩, .string ⟨#[98, 46, 97, 46, 99, 111, 109]⟩, .int .i64 1, .int .i64 9, .int .i64 8, .string ⟨#[]⟩, .string ⟨#[]⟩] 40)) w21.heap.size 40 (fl [(Rec.mk ⟨#[116, 46, 99, 111, 109]⟩ 16 7 0 ⟨#[]⟩ ⟨#[104, 105]⟩), (Rec.mk ⟨#[98, 46, 97, 46, 99, 111, 109]⟩ 1 9 8 ⟨#[]⟩ ⟨#[]⟩)])) := heap_alloc_new w21 _
        have C22 := Lib.hid (C21.out.alloc (.cells #[.string ⟨#[116, 46, 99, 111, 109]⟩, .int .i64 16, .int .i64 7, .int .i64 0, .string ⟨#[]⟩, .string ⟨#[104, 105]⟩, .string ⟨#[98, 46, 97, 46, 99, 111, 109]⟩, .int .i64 1, .int .i64 9, .int .i64 8, .string ⟨#[]⟩, .string ⟨#[]⟩] 40))
        have G22 := Lib.hid (grown_trans G21.out (World.grownBy_alloc w21 (.cells #[.string ⟨#[116, 46, 99, 111, 109]⟩, .int .i64 16, .int .i64 7, .int .i64 0, .string ⟨#[]⟩, .string ⟨#[104, 105]⟩, .string ⟨#[98, 46, 97, 46, 99, 111, 109]⟩, .int .i64 1, .int .i64 9, .int .i64 8, .string ⟨#[]⟩, .string ⟨#[]⟩] 40) (some g)))
        have R22 := Lib.hid (R21.out.alloc (.cells #[.string ⟨#[116, 46, 99, 111, 109]⟩, .int .i64 16, .int .i64 7, .int .i64 0, .string ⟨#[]⟩, .string ⟨#[104, 105]⟩, .string ⟨#[98, 46, 97, 46, 99, 111, 109]⟩, .int .i64 1, .int .i64 9, .int .i64 8, .string ⟨#[]⟩, .string ⟨#[]⟩] 40))
        have Z22 : Hid (w.heap.size < (w21.alloc (.cells #[.string ⟨#[116, 46, 99, 111, 109]⟩, .int .i64 16, .int .i64 7, .int .i64 0, .string ⟨#[]⟩, .string ⟨#[104, 105]⟩, .string ⟨#[98, 46, 97, 46, 99, 111, 109]⟩, .int .i64 1, .int .i64 9, .int .i64 8, .string ⟨#[]⟩, .string ⟨#[]⟩] 40)).heap.size) := by show _ < _; have := Z21.out; simp; omega
        have O22 := Lib.hid (O21.out.alloc (.cells #[.string ⟨#[116, 46, 99, 111, 109]⟩, .int .i64 16, .int .i64 7, .int .i64 0, .string ⟨#[]⟩, .string ⟨#[104, 105]⟩, .string ⟨#[98, 46, 97, 46, 99, 111, 109]⟩, .int .i64 1, .int .i64 9, .int .i64 8, .string ⟨#[]⟩, .string ⟨#[]⟩] 40))
        have S22 : Hid (Sr (w21.alloc (.cells #[.string ⟨#[116, 46, 99, 111, 109]⟩, .int .i64 16, .int .i64 7, .int .i64 0, .string ⟨#[]⟩, .string ⟨#[104, 105]⟩, .string ⟨#[98, 46, 97, 46, 99, 111, 109]⟩, .int .i64 1, .int .i64 9, .int .i64 8, .string ⟨#[]⟩, .string ⟨#[]⟩] 40)) (w21.alloc (.cells #[.string ⟨#[116, 46, 99, 111, 109]⟩, .int .i64 16, .int .i64 7, .int .i64 0, .string ⟨#[]⟩, .string ⟨#[104, 105]⟩, .string ⟨#[98, 46, 97, 46, 99, 111, 109]⟩, .int .i64 1, .int .i64 9, .int .i64 8, .string ⟨#[]⟩, .string ⟨#[]⟩] 40)).heap.size (some ⟨w21.heap.size, 0, none⟩) 2 [(Rec.mk ⟨#[116, 46, 99, 111, 109]⟩ 16 7 0 ⟨#[]⟩ ⟨#[104, 105]⟩), (Rec.mk ⟨#[98, 46, 97, 46, 99, 111, 109]⟩ 1 9 8 ⟨#[]⟩ ⟨#[]⟩)]) := bk_sr0 B22.out rfl
        go_wp2_with (at_builtin; refine AppR.append_recs (w := w21.alloc (.cells #[.string ⟨#[116, 46, 99, 111, 109]⟩, .int .i64 16, .int .i64 7, .int .i64 0, .string ⟨#[]⟩, .string ⟨#[104, 105]⟩, .string ⟨#[98, 46, 97, 46, 99, 111, 109]⟩, .int .i64 1, .int .i64 9, .int .i64 8, .string ⟨#[]⟩, .string ⟨#[]⟩] 40)) rfl (.tmp 32) (.tmp 35) rfl (w.heap.size + 1) gq10 5 cq10 (zb t h true false false) rfl O22.out w21.heap.size 0 2 2 _ [(Rec.mk ⟨#[116, 46, 99, 111, 109]⟩ 16 7 0 ⟨#[]⟩ ⟨#[104, 105]⟩), (Rec.mk ⟨#[98, 46, 97, 46, 99, 111, 109]⟩ 1 9 8 ⟨#[]⟩ ⟨#[]⟩)] rfl S22.out (by omega) (by omega) (by have := Z22.out; omega) ?_)
        intro gq23 cq23 w23 hown hgrow
        have O23 := Lib.hid hown
        have C23 := Lib.hid (cur_far C22.out O22.out hgrow (by have := GL.out; omega))
        have gge : w.heap.size + 1 ≤ gq10 := (O22.out.lt gq10 rfl).1
        have G23 := Lib.hid (grown_far G22.out hgrow (by omega))
        have R23 := Lib.hid (R22.out.grown hgrow (fun e => by have h2 : w.heap.size = gq10 := Option.some.inj e; omega))
        have Z23 : Hid (w.heap.size < w23.heap.size) := Nat.lt_of_lt_of_le Z22.out hgrow.size
        clear hown hgrow gge C22 G22 R22 Z22 O22 B22 S22 C21 G21 R21 Z21 O21
        have OE : Hid (w23.ownsRow (w.heap.size + 1) 40 6 (.slice (some ⟨gq23, 0, none⟩) 7 cq23) 7 (fl (zb t h true false true))) := O23.out
        clear O23
        have O23 := OE
        clear OE
        have SL : Hid (Sr w23 w23.heap.size (some ⟨gq23, 0, none⟩) 7 (zb t h true false true)) := own_sr O23.out
        go_wp2_with fail
        refine (UniqZ.spec gq23 0 7 cq23 (zb t h true false true) w23 SL.out (by omega) (fine HT.out true false true)).mono ?_
        rintro e w24 ⟨S, gs, ms, cs, hsrt, rfl, hlm, hown, hl⟩
        have hS : S = zs t h true false true := hsrt.unique (srt HT.out true false true)
        subst hS
        rw [thin HT.out] at hlm hown
        have HM := Lib.hid hlm
        have O24 := Lib.hid hown
        have C24 := Lib.hid (cur_below C23.out hl)
        have G24 := Lib.hid (grown_below G23.out hl)
        have R24 := Lib.hid (R23.out.below hl R23.out.lt)
        have NG : Hid (gs ≠ w.heap.size) := show _ ≠ _ from fun e => by have h1 := (O24.out.lt gs rfl).1; have h2 := Z23.out; omega
        have BG : Hid (w.heap.size ≤ w23.heap.size) := Nat.le_of_lt Z23.out
        clear hsrt hlm hown hl SL O23 C23 G23 R23 Z23
        have r0 : w24.cell? ⟨w.heap.size, 0, none⟩ = some (.string ⟨#[]⟩) := R24.out.cell 0
        have r1 : w24.cell? ⟨w.heap.size, 1, none⟩ = some (.slice none 0 0) := R24.out.cell 1
        have q0 := R24.out.free 0
        have q1 := R24.out.free 1
        have F := Lib.hid (filZ_bk R24.out ⟨#[99, 111, 109]⟩ (.slice (some ⟨gs, 0, none⟩) ms cs))
        have OF := Lib.hid (own_filZ O24.out NG.out ⟨#[99, 111, 109]⟩ (.slice (some ⟨gs, 0, none⟩) ms cs))
        have CF := Lib.hid (cur_filZ C24.out GL.out ⟨#[99, 111, 109]⟩ (.slice (some ⟨gs, 0, none⟩) ms cs))
        have GF := Lib.hid (grown_filZ G24.out (Nat.le_refl _) ⟨#[99, 111, 109]⟩ (.slice (some ⟨gs, 0, none⟩) ms cs))
        go_wp2
        exact bodyPost_ret (v := .agg #[.string ⟨#[99, 111, 109]⟩, .slice (some ⟨gs, 0, none⟩) ms cs]) (resZ1 rfl F.out rfl) rfl ⟨t, h, true, false, true, gs, ms, cs, HT.out, rfl, HM.out, MapK.own_mono OF.out BG.out, CF.out, GF.out⟩
      | false =>

        have SL : Hid (Sr w20 w20.heap.size (some ⟨gq10, 0, none⟩) 5 (zb t h true false false)) := own_sr O20.out
        go_wp2_with fail
        refine (UniqZ.spec gq10 0 5 cq10 (zb t h true false false) w20 SL.out (by omega) (fine HT.out true false false)).mono ?_
        rintro e w25 ⟨S, gs, ms, cs, hsrt, rfl, hlm, hown, hl⟩
        have hS : S = zs t h true false false := hsrt.unique (srt HT.out true false false)
        subst hS
        rw [thin HT.out] at hlm hown
        have HM := Lib.hid hlm
        have O25 := Lib.hid hown
        have C25 := Lib.hid (cur_below C20.out hl)
        have G25 := Lib.hid (grown_below G20.out hl)
        have R25 := Lib.hid (R20.out.below hl R20.out.lt)
        have NG : Hid (gs ≠ w.heap.size) := show _ ≠ _ from fun e => by have h1 := (O25.out.lt gs rfl).1; have h2 := Z20.out; omega
        have BG : Hid (w.heap.size ≤ w20.heap.size) := Nat.le_of_lt Z20.out
        clear hsrt hlm hown hl SL O20 C20 G20 R20 Z20
        have r0 : w25.cell? ⟨w.heap.size, 0, none⟩ = some (.string ⟨#[]⟩) := R25.out.cell 0
        have r1 : w25.cell? ⟨w.heap.size, 1, none⟩ = some (.slice none 0 0) := R25.out.cell 1
        have q0 := R25.out.free 0
        have q1 := R25.out.free 1
        have F := Lib.hid (filZ_bk R25.out ⟨#[99, 111, 109]⟩ (.slice (some ⟨gs, 0, none⟩) ms cs))
        have OF := Lib.hid (own_filZ O25.out NG.out ⟨#[99, 111, 109]⟩ (.slice (some ⟨gs, 0, none⟩) ms cs))
        have CF := Lib.hid (cur_filZ C25.out GL.out ⟨#[99, 111, 109]⟩ (.slice (some ⟨gs, 0, none⟩) ms cs))
        have GF := Lib.hid (grown_filZ G25.out (Nat.le_refl _) ⟨#[99, 111, 109]⟩ (.slice (some ⟨gs, 0, none⟩) ms cs))
        go_wp2
        exact bodyPost_ret (v := .agg #[.string ⟨#[99, 111, 109]⟩, .slice (some ⟨gs, 0, none⟩) ms cs]) (resZ1 rfl F.out rfl) rfl ⟨t, h, true, false, false, gs, ms, cs, HT.out, rfl, HM.out, MapK.own_mono OF.out BG.out, CF.out, GF.out⟩
  | false =>

    go_wp2_with fail
    refine (l1Once_any g 2 _ C6.out (by omega) (by omega)).mono ?_
    rintro e w26 ⟨bb, rfl, hc9, hg9⟩
    have C26 := Lib.hid hc9
    have G26 := Lib.hid (grown_trans G6.out hg9)
    have R26 := Lib.hid (R6.out.grown hg9 (fun e => by have h1 := GL.out; have h2 : w.heap.size = g := Option.some.inj e; omega))
    have O26 := Lib.hid (own_far O6.out hg9 (Nat.lt_succ_of_lt GL.out))
    have Z26 : Hid (w.heap.size < w26.heap.size) := Nat.lt_of_lt_of_le Z6.out hg9.size
    clear hc9 hg9 C6 G6 R6 O6 Z6
    cases bb with
    | true =>
      have B27 : Hid (Bk (w26.alloc (.cells #[.string ⟨#[119, 119, 119, 46, 99, 111, 109]⟩, .int .i64 5, .int .i64 9, .int .i64 0, .string ⟨#[97, 46, 111, 114, 103]⟩, .string ⟨#[]⟩] 40)) w26.heap.size 40 (fl [(Rec.mk ⟨#[119, 119, 119, 46, 99, 111, 109]⟩ 5 9 0 ⟨#[97, 46, 111, 114, 103]⟩ ⟨#[]⟩)])) := heap_alloc_new w26 _
      have C27 := Lib.hid (C26.out.alloc (.cells #[.string ⟨#[119, 119, 119, 46, 99, 111, 109]⟩, .int .i64 5, .int .i64 9, .int .i64 0, .string ⟨#[97, 46, 111, 114, 103]⟩, .string ⟨#[]⟩] 40))
      have G27 := Lib.hid (grown_trans G26.out (World.grownBy_alloc w26 (.cells #[.string ⟨#[119, 119, 119, 46, 99, 111, 109]⟩, .int .i64 5, .int .i64 9, .int .i64 0, .string ⟨#[97, 46, 111, 114, 103]⟩, .string ⟨#[]⟩] 40) (some g)))
      have R27 := Lib.hid (R26.out.alloc (.cells #[.string ⟨#[119, 119, 119, 46, 99, 111, 109]⟩, .int .i64 5, .int .i64 9, .int .i64 0, .string ⟨#[97, 46, 111, 114, 103]⟩, .string ⟨#[]⟩] 40))
      have Z27 : Hid (w.heap.size < (w26.alloc (.cells #[.string ⟨#[119, 119, 119, 46, 99, 111, 109]⟩, .int .i64 5, .int .i64 9, .int .i64 0, .string ⟨#[97, 46, 111, 114, 103]⟩, .string ⟨#[]⟩] 40)).heap.size) := by show _ < _; have := Z26.out; simp; omega
      have O27 := Lib.hid (O26.out.alloc (.cells #[.string ⟨#[119, 119, 119, 46, 99, 111, 109]⟩, .int .i64 5, .int .i64 9, .int .i64 0, .string ⟨#[97, 46, 111, 114, 103]⟩, .string ⟨#[]⟩] 40))
      have S27 : Hid (Sr (w26.alloc (.cells #[.string ⟨#[119, 119, 119, 46, 99, 111, 109]⟩, .int .i64 5, .int .i64 9, .int .i64 0, .string ⟨#[97, 46, 111, 114, 103]⟩, .string ⟨#[]⟩] 40)) (w26.alloc (.cells #[.string ⟨#[119, 119, 119, 46, 99, 111, 109]⟩, .int .i64 5, .int .i64 9, .int .i64 0, .string ⟨#[97, 46, 111, 114, 103]⟩, .string ⟨#[]⟩] 40)).heap.size (some ⟨w26.heap.size, 0, none⟩) 1 [(Rec.mk ⟨#[119, 119, 119, 46, 99, 111, 109]⟩ 5 9 0 ⟨#[97, 46, 111, 114, 103]⟩ ⟨#[]⟩)]) := bk_sr0 B27.out rfl
      go_wp2_with (at_builtin; refine AppR.append_recs (w := w26.alloc (.cells #[.string ⟨#[119, 119, 119, 46, 99, 111, 109]⟩, .int .i64 5, .int .i64 9, .int .i64 0, .string ⟨#[97, 46, 111, 114, 103]⟩, .string ⟨#[]⟩] 40)) rfl (.tmp 26) (.tmp 28) rfl (w.heap.size + 1) gl 3 3 (zb t h false false false) rfl O27.out w26.heap.size 0 1 1 _ [(Rec.mk ⟨#[119, 119, 119, 46, 99, 111, 109]⟩ 5 9 0 ⟨#[97, 46, 111, 114, 103]⟩ ⟨#[]⟩)] rfl S27.out (by omega) (by omega) (by have := Z27.out; omega) ?_)
      intro gq28 cq28 w28 hown hgrow
      have O28 := Lib.hid hown
      have C28 := Lib.hid (cur_far C27.out O27.out hgrow (by have := GL.out; omega))
      have gge : w.heap.size + 1 ≤ gl := (O27.out.lt gl rfl).1
      have G28 := Lib.hid (grown_far G27.out hgrow (by omega))
      have R28 := Lib.hid (R27.out.grown hgrow (fun e => by have h2 : w.heap.size = gl := Option.some.inj e; omega))
      have Z28 : Hid (w.heap.size < w28.heap.size) := Nat.lt_of_lt_of_le Z27.out hgrow.size
      clear hown hgrow gge C27 G27 R27 Z27 O27 B27 S27 C26 G26 R26 Z26 O26
      have OE : Hid (w28.ownsRow (w.heap.size + 1) 40 6 (.slice (some ⟨gq28, 0, none⟩) 4 cq28) 4 (fl (zb t h false true false))) := O28.out
      clear O28
      have O28 := OE
      clear OE
      go_wp2_with fail
      refine (l1Once_any g 2 _ C28.out (by omega) (by omega)).mono ?_
      rintro e w29 ⟨bb, rfl, hc9, hg9⟩
      have C29 := Lib.hid hc9
      have G29 := Lib.hid (grown_trans G28.out hg9)
      have R29 := Lib.hid (R28.out.grown hg9 (fun e => by have h1 := GL.out; have h2 : w.heap.size = g := Option.some.inj e; omega))
      have O29 := Lib.hid (own_far O28.out hg9 (Nat.lt_succ_of_lt GL.out))
      have Z29 : Hid (w.heap.size < w29.heap.size) := Nat.lt_of_lt_of_le Z28.out hg9.size
      clear hc9 hg9 C28 G28 R28 O28 Z28
      cases bb with
      | true =>
        go_wp2_with fail
        refine (ZoneH.l10Addr ⟨#[98, 46, 97, 46, 99, 111, 109]⟩ 8 9 w29).mono ?_
        rintro e w30 ⟨rfl, hl⟩
        have C30 := Lib.hid (cur_below C29.out hl)
        have G30 := Lib.hid (grown_below G29.out hl)
        have R30 := Lib.hid (R29.out.below hl R29.out.lt)
        have Z30 : Hid (w.heap.size < w30.heap.size) := Nat.lt_of_lt_of_le Z29.out hl.size
        have O30 := Lib.hid (own_below O29.out hl)
        clear hl C29 G29 R29 Z29 O29
        have B31 : Hid (Bk (w30.alloc (.cells #[.string ⟨#[116, 46, 99, 111, 109]⟩, .int .i64 16, .int .i64 7, .int .i64 0, .string ⟨#[]⟩, .string ⟨#[104, 105]⟩, .string ⟨#[98, 46, 97, 46, 99, 111, 109]⟩, .int .i64 1, .int .i64 9, .int .i64 8, .string ⟨#[]⟩, .string ⟨#[]⟩] 40)) w30.heap.size 40 (fl [(Rec.mk ⟨#[116, 46, 99, 111, 109]⟩ 16 7 0 ⟨#[]⟩ ⟨#[104, 105]⟩), (Rec.mk ⟨#[98, 46, 97, 46, 99, 111, 109]⟩ 1 9 8 ⟨#[]⟩ ⟨#[]⟩)])) := heap_alloc_new w30 _
        have C31 := Lib.hid (C30.out.alloc (.cells #[.string ⟨#[116, 46, 99, 111, 109]⟩, .int .i64 16, .int .i64 7, .int .i64 0, .string ⟨#[]⟩, .string ⟨#[104, 105]⟩, .string ⟨#[98, 46, 97, 46, 99, 111, 109]⟩, .int .i64 1, .int .i64 9, .int .i64 8, .string ⟨#[]⟩, .string ⟨#[]⟩] 40))
        have G31 := Lib.hid (grown_trans G30.out (World.grownBy_alloc w30 (.cells #[.string ⟨#[116, 46, 99, 111, 109]⟩, .int .i64 16, .int .i64 7, .int .i64 0, .string ⟨#[]⟩, .string ⟨#[104, 105]⟩, .string ⟨#[98, 46, 97, 46, 99, 111, 109]⟩, .int .i64 1, .int .i64 9, .int .i64 8, .string ⟨#[]⟩, .string ⟨#[]⟩] 40) (some g)))
        have R31 := Lib.hid (R30.out.alloc (.cells #[.string ⟨#[116, 46, 99, 111, 109]⟩, .int .i64 16, .int .i64 7, .int .i64 0, .string ⟨#[]⟩, .string ⟨#[104, 105]⟩, .string ⟨#[98, 46, 97, 46, 99, 111, 109]⟩, .int .i64 1, .int .i64 9, .int .i64 8, .string ⟨#[]⟩, .string ⟨#[]⟩] 40))
        have Z31 : Hid (w.heap.size < (w30.alloc (.cells #[.string ⟨#[116, 46, 99, 111, 109]⟩, .int .i64 16, .int .i64 7, .int .i64 0, .string ⟨#[]⟩, .string ⟨#[104, 105]⟩, .string ⟨#[98, 46, 97, 46, 99, 111, 109]⟩, .int .i64 1, .int .i64 9, .int .i64 8, .string ⟨#[]⟩, .string ⟨#[]⟩] 40)).heap.size) := by show _ < _; have := Z30.out; simp; omega
        have O31 := Lib.hid (O30.out.alloc (.cells #[.string ⟨#[116, 46, 99, 111, 109]⟩, .int .i64 16, .int .i64 7, .int .i64 0, .string ⟨#[]⟩, .string ⟨#[104, 105]⟩, .string ⟨#[98, 46, 97, 46, 99, 111, 109]⟩, .int .i64 1, .int .i64 9, .int .i64 8, .string ⟨#[]⟩, .string ⟨#[]⟩] 40))
        have S31 : Hid (Sr (w30.alloc (.cells #[.string ⟨#[116, 46, 99, 111, 109]⟩, .int .i64 16, .int .i64 7, .int .i64 0, .string ⟨#[]⟩, .string ⟨#[104, 105]⟩, .string ⟨#[98, 46, 97, 46, 99, 111, 109]⟩, .int .i64 1, .int .i64 9, .int .i64 8, .string ⟨#[]⟩, .string ⟨#[]⟩] 40)) (w30.alloc (.cells #[.string ⟨#[116, 46, 99, 111, 109]⟩, .int .i64 16, .int .i64 7, .int .i64 0, .string ⟨#[]⟩, .string ⟨#[104, 105]⟩, .string ⟨#[98, 46, 97, 46, 99, 111, 109]⟩, .int .i64 1, .int .i64 9, .int .i64 8, .string ⟨#[]⟩, .string ⟨#[]⟩] 40)).heap.size (some ⟨w30.heap.size, 0, none⟩) 2 [(Rec.mk ⟨#[116, 46, 99, 111, 109]⟩ 16 7 0 ⟨#[]⟩ ⟨#[104, 105]⟩), (Rec.mk ⟨#[98, 46, 97, 46, 99, 111, 109]⟩ 1 9 8 ⟨#[]⟩ ⟨#[]⟩)]) := bk_sr0 B31.out rfl
        go_wp2_with (at_builtin; refine AppR.append_recs (w := w30.alloc (.cells #[.string ⟨#[116, 46, 99, 111, 109]⟩, .int .i64 16, .int .i64 7, .int .i64 0, .string ⟨#[]⟩, .string ⟨#[104, 105]⟩, .string ⟨#[98, 46, 97, 46, 99, 111, 109]⟩, .int .i64 1, .int .i64 9, .int .i64 8, .string ⟨#[]⟩, .string ⟨#[]⟩] 40)) rfl (.tmp 32) (.tmp 35) rfl (w.heap.size + 1) gq28 4 cq28 (zb t h false true false) rfl O31.out w30.heap.size 0 2 2 _ [(Rec.mk ⟨#[116, 46, 99, 111, 109]⟩ 16 7 0 ⟨#[]⟩ ⟨#[104, 105]⟩), (Rec.mk ⟨#[98, 46, 97, 46, 99, 111, 109]⟩ 1 9 8 ⟨#[]⟩ ⟨#[]⟩)] rfl S31.out (by omega) (by omega) (by have := Z31.out; omega) ?_)
        intro gq32 cq32 w32 hown hgrow
        have O32 := Lib.hid hown
        have C32 := Lib.hid (cur_far C31.out O31.out hgrow (by have := GL.out; omega))
        have gge : w.heap.size + 1 ≤ gq28 := (O31.out.lt gq28 rfl).1
        have G32 := Lib.hid (grown_far G31.out hgrow (by omega))
        have R32 := Lib.hid (R31.out.grown hgrow (fun e => by have h2 : w.heap.size = gq28 := Option.some.inj e; omega))
        have Z32 : Hid (w.heap.size < w32.heap.size) := Nat.lt_of_lt_of_le Z31.out hgrow.size
        clear hown hgrow gge C31 G31 R31 Z31 O31 B31 S31 C30 G30 R30 Z30 O30
        have OE : Hid (w32.ownsRow (w.heap.size + 1) 40 6 (.slice (some ⟨gq32, 0, none⟩) 6 cq32) 6 (fl (zb t h false true true))) := O32.out
        clear O32
        have O32 := OE
        clear OE
        have SL : Hid (Sr w32 w32.heap.size (some ⟨gq32, 0, none⟩) 6 (zb t h false true true)) := own_sr O32.out
        go_wp2_with fail
        refine (UniqZ.spec gq32 0 6 cq32 (zb t h false true true) w32 SL.out (by omega) (fine HT.out false true true)).mono ?_
        rintro e w33 ⟨S, gs, ms, cs, hsrt, rfl, hlm, hown, hl⟩
        have hS : S = zs t h false true true := hsrt.unique (srt HT.out false true true)
        subst hS
        rw [thin HT.out] at hlm hown
        have HM := Lib.hid hlm
        have O33 := Lib.hid hown
        have C33 := Lib.hid (cur_below C32.out hl)
        have G33 := Lib.hid (grown_below G32.out hl)
        have R33 := Lib.hid (R32.out.below hl R32.out.lt)
        have NG : Hid (gs ≠ w.heap.size) := show _ ≠ _ from fun e => by have h1 := (O33.out.lt gs rfl).1; have h2 := Z32.out; omega
        have BG : Hid (w.heap.size ≤ w32.heap.size) := Nat.le_of_lt Z32.out
        clear hsrt hlm hown hl SL O32 C32 G32 R32 Z32
        have r0 : w33.cell? ⟨w.heap.size, 0, none⟩ = some (.string ⟨#[]⟩) := R33.out.cell 0
        have r1 : w33.cell? ⟨w.heap.size, 1, none⟩ = some (.slice none 0 0) := R33.out.cell 1
        have q0 := R33.out.free 0
        have q1 := R33.out.free 1
        have F := Lib.hid (filZ_bk R33.out ⟨#[99, 111, 109]⟩ (.slice (some ⟨gs, 0, none⟩) ms cs))
        have OF := Lib.hid (own_filZ O33.out NG.out ⟨#[99, 111, 109]⟩ (.slice (some ⟨gs, 0, none⟩) ms cs))
        have CF := Lib.hid (cur_filZ C33.out GL.out ⟨#[99, 111, 109]⟩ (.slice (some ⟨gs, 0, none⟩) ms cs))
        have GF := Lib.hid (grown_filZ G33.out (Nat.le_refl _) ⟨#[99, 111, 109]⟩ (.slice (some ⟨gs, 0, none⟩) ms cs))
        go_wp2
        exact bodyPost_ret (v := .agg #[.string ⟨#[99, 111, 109]⟩, .slice (some ⟨gs, 0, none⟩) ms cs]) (resZ1 rfl F.out rfl) rfl ⟨t, h, false, true, true, gs, ms, cs, HT.out, rfl, HM.out, MapK.own_mono OF.out BG.out, CF.out, GF.out⟩
      | false =>

        have SL : Hid (Sr w29 w29.heap.size (some ⟨gq28, 0, none⟩) 4 (zb t h false true false)) := own_sr O29.out
        go_wp2_with fail
        refine (UniqZ.spec gq28 0 4 cq28 (zb t h false true false) w29 SL.out (by omega) (fine HT.out false true false)).mono ?_
        rintro e w34 ⟨S, gs, ms, cs, hsrt, rfl, hlm, hown, hl⟩
        have hS : S = zs t h false true false := hsrt.unique (srt HT.out false true false)
        subst hS
        rw [thin HT.out] at hlm hown
        have HM := Lib.hid hlm
        have O34 := Lib.hid hown
        have C34 := Lib.hid (cur_below C29.out hl)
        have G34 := Lib.hid (grown_below G29.out hl)
        have R34 := Lib.hid (R29.out.below hl R29.out.lt)
        have NG : Hid (gs ≠ w.heap.size) := show _ ≠ _ from fun e => by have h1 := (O34.out.lt gs rfl).1; have h2 := Z29.out; omega
        have BG : Hid (w.heap.size ≤ w29.heap.size) := Nat.le_of_lt Z29.out
        clear hsrt hlm hown hl SL O29 C29 G29 R29 Z29
        have r0 : w34.cell? ⟨w.heap.size, 0, none⟩ = some (.string ⟨#[]⟩) := R34.out.cell 0
        have r1 : w34.cell? ⟨w.heap.size, 1, none⟩ = some (.slice none 0 0) := R34.out.cell 1
        have q0 := R34.out.free 0
        have q1 := R34.out.free 1
        have F := Lib.hid (filZ_bk R34.out ⟨#[99, 111, 109]⟩ (.slice (some ⟨gs, 0, none⟩) ms cs))
        have OF := Lib.hid (own_filZ O34.out NG.out ⟨#[99, 111, 109]⟩ (.slice (some ⟨gs, 0, none⟩) ms cs))
        have CF := Lib.hid (cur_filZ C34.out GL.out ⟨#[99, 111, 109]⟩ (.slice (some ⟨gs, 0, none⟩) ms cs))
        have GF := Lib.hid (grown_filZ G34.out (Nat.le_refl _) ⟨#[99, 111, 109]⟩ (.slice (some ⟨gs, 0, none⟩) ms cs))
        go_wp2
        exact bodyPost_ret (v := .agg #[.string ⟨#[99, 111, 109]⟩, .slice (some ⟨gs, 0, none⟩) ms cs]) (resZ1 rfl F.out rfl) rfl ⟨t, h, false, true, false, gs, ms, cs, HT.out, rfl, HM.out, MapK.own_mono OF.out BG.out, CF.out, GF.out⟩
    | false =>

      go_wp2_with fail
      refine (l1Once_any g 2 _ C26.out (by omega) (by omega)).mono ?_
      rintro e w35 ⟨bb, rfl, hc9, hg9⟩
      have C35 := Lib.hid hc9
      have G35 := Lib.hid (grown_trans G26.out hg9)
      have R35 := Lib.hid (R26.out.grown hg9 (fun e => by have h1 := GL.out; have h2 : w.heap.size = g := Option.some.inj e; omega))
      have O35 := Lib.hid (own_far O26.out hg9 (Nat.lt_succ_of_lt GL.out))
      have Z35 : Hid (w.heap.size < w35.heap.size) := Nat.lt_of_lt_of_le Z26.out hg9.size
      clear hc9 hg9 C26 G26 R26 O26 Z26
      cases bb with
      | true =>
        go_wp2_with fail
        refine (ZoneH.l10Addr ⟨#[98, 46, 97, 46, 99, 111, 109]⟩ 8 9 w35).mono ?_
        rintro e w36 ⟨rfl, hl⟩
        have C36 := Lib.hid (cur_below C35.out hl)
        have G36 := Lib.hid (grown_below G35.out hl)
        have R36 := Lib.hid (R35.out.below hl R35.out.lt)
        have Z36 : Hid (w.heap.size < w36.heap.size) := Nat.lt_of_lt_of_le Z35.out hl.size
        have O36 := Lib.hid (own_below O35.out hl)
        clear hl C35 G35 R35 Z35 O35
        have B37 : Hid (Bk (w36.alloc (.cells #[.string ⟨#[116, 46, 99, 111, 109]⟩, .int .i64 16, .int .i64 7, .int .i64 0, .string ⟨#[]⟩, .string ⟨#[104, 105]⟩, .string ⟨#[98, 46, 97, 46, 99, 111, 109]⟩, .int .i64 1, .int .i64 9, .int .i64 8, .string ⟨#[]⟩, .string ⟨#[]⟩] 40)) w36.heap.size 40 (fl [(Rec.mk ⟨#[116, 46, 99, 111, 109]⟩ 16 7 0 ⟨#[]⟩ ⟨#[104, 105]⟩), (Rec.mk ⟨#[98, 46, 97, 46, 99, 111, 109]⟩ 1 9 8 ⟨#[]⟩ ⟨#[]⟩)])) := heap_alloc_new w36 _
        have C37 := Lib.hid (C36.out.alloc (.cells #[.string ⟨#[116, 46, 99, 111, 109]⟩, .int .i64 16, .int .i64 7, .int .i64 0, .string ⟨#[]⟩, .string ⟨#[104, 105]⟩, .string ⟨#[98, 46, 97, 46, 99, 111, 109]⟩, .int .i64 1, .int .i64 9, .int .i64 8, .string ⟨#[]⟩, .string ⟨#[]⟩] 40))
        have G37 := Lib.hid (grown_trans G36.out (World.grownBy_alloc w36 (.cells #[.string ⟨#[116, 46, 99, 111, 109]⟩, .int .i64 16, .int .i64 7, .int .i64 0, .string ⟨#[]⟩, .string ⟨#[104, 105]⟩, .string ⟨#[98, 46, 97, 46, 99, 111, 109]⟩, .int .i64 1, .int .i64 9, .int .i64 8, .string ⟨#[]⟩, .string ⟨#[]⟩] 40) (some g)))
        have R37 := Lib.hid (R36.out.alloc (.cells #[.string ⟨#[116, 46, 99, 111, 109]⟩, .int .i64 16, .int .i64 7, .int .i64 0, .string ⟨#[]⟩, .string ⟨#[104, 105]⟩, .string ⟨#[98, 46, 97, 46, 99, 111, 109]⟩, .int .i64 1, .int .i64 9, .int .i64 8, .string ⟨#[]⟩, .string ⟨#[]⟩] 40))
        have Z37 : Hid (w.heap.size < (w36.alloc (.cells #[.string ⟨#[116, 46, 99, 111, 109]⟩, .int .i64 16, .int .i64 7, .int .i64 0, .string ⟨#[]⟩, .string ⟨#[104, 105]⟩, .string ⟨#[98, 46, 97, 46, 99, 111, 109]⟩, .int .i64 1, .int .i64 9, .int .i64 8, .string ⟨#[]⟩, .string ⟨#[]⟩] 40)).heap.size) := by show _ < _; have := Z36.out; simp; omega
        have O37 := Lib.hid (O36.out.alloc (.cells #[.string ⟨#[116, 46, 99, 111, 109]⟩, .int .i64 16, .int .i64 7, .int .i64 0, .string ⟨#[]⟩, .string ⟨#[104, 105]⟩, .string ⟨#[98, 46, 97, 46, 99, 111, 109]⟩, .int .i64 1, .int .i64 9, .int .i64 8, .string ⟨#[]⟩, .string ⟨#[]⟩] 40))
        have S37 : Hid (Sr (w36.alloc (.cells #[.string ⟨#[116, 46, 99, 111, 109]⟩, .int .i64 16, .int .i64 7, .int .i64 0, .string ⟨#[]⟩, .string ⟨#[104, 105]⟩, .string ⟨#[98, 46, 97, 46, 99, 111, 109]⟩, .int .i64 1, .int .i64 9, .int .i64 8, .string ⟨#[]⟩, .string ⟨#[]⟩] 40)) (w36.alloc (.cells #[.string ⟨#[116, 46, 99, 111, 109]⟩, .int .i64 16, .int .i64 7, .int .i64 0, .string ⟨#[]⟩, .string ⟨#[104, 105]⟩, .string ⟨#[98, 46, 97, 46, 99, 111, 109]⟩, .int .i64 1, .int .i64 9, .int .i64 8, .string ⟨#[]⟩, .string ⟨#[]⟩] 40)).heap.size (some ⟨w36.heap.size, 0, none⟩) 2 [(Rec.mk ⟨#[116, 46, 99, 111, 109]⟩ 16 7 0 ⟨#[]⟩ ⟨#[104, 105]⟩), (Rec.mk ⟨#[98, 46, 97, 46, 99, 111, 109]⟩ 1 9 8 ⟨#[]⟩ ⟨#[]⟩)]) := bk_sr0 B37.out rfl
        go_wp2_with (at_builtin; refine AppR.append_recs (w := w36.alloc (.cells #[.string ⟨#[116, 46, 99, 111, 109]⟩, .int .i64 16, .int .i64 7, .int .i64 0, .string ⟨#[]⟩, .string ⟨#[104, 105]⟩, .string ⟨#[98, 46, 97, 46, 99, 111, 109]⟩, .int .i64 1, .int .i64 9, .int .i64 8, .string ⟨#[]⟩, .string ⟨#[]⟩] 40)) rfl (.tmp 32) (.tmp 35) rfl (w.heap.size + 1) gl 3 3 (zb t h false false false) rfl O37.out w36.heap.size 0 2 2 _ [(Rec.mk ⟨#[116, 46, 99, 111, 109]⟩ 16 7 0 ⟨#[]⟩ ⟨#[104, 105]⟩), (Rec.mk ⟨#[98, 46, 97, 46, 99, 111, 109]⟩ 1 9 8 ⟨#[]⟩ ⟨#[]⟩)] rfl S37.out (by omega) (by omega) (by have := Z37.out; omega) ?_)
        intro gq38 cq38 w38 hown hgrow
        have O38 := Lib.hid hown
        have C38 := Lib.hid (cur_far C37.out O37.out hgrow (by have := GL.out; omega))
        have gge : w.heap.size + 1 ≤ gl := (O37.out.lt gl rfl).1
        have G38 := Lib.hid (grown_far G37.out hgrow (by omega))
        have R38 := Lib.hid (R37.out.grown hgrow (fun e => by have h2 : w.heap.size = gl := Option.some.inj e; omega))
        have Z38 : Hid (w.heap.size < w38.heap.size) := Nat.lt_of_lt_of_le Z37.out hgrow.size
        clear hown hgrow gge C37 G37 R37 Z37 O37 B37 S37 C36 G36 R36 Z36 O36
        have OE : Hid (w38.ownsRow (w.heap.size + 1) 40 6 (.slice (some ⟨gq38, 0, none⟩) 5 cq38) 5 (fl (zb t h false false true))) := O38.out
        clear O38
        have O38 := OE
        clear OE
        have SL : Hid (Sr w38 w38.heap.size (some ⟨gq38, 0, none⟩) 5 (zb t h false false true)) := own_sr O38.out
        go_wp2_with fail
        refine (UniqZ.spec gq38 0 5 cq38 (zb t h false false true) w38 SL.out (by omega) (fine HT.out false false true)).mono ?_
        rintro e w39 ⟨S, gs, ms, cs, hsrt, rfl, hlm, hown, hl⟩
        have hS : S = zs t h false false true := hsrt.unique (srt HT.out false false true)
        subst hS
        rw [thin HT.out] at hlm hown
        have HM := Lib.hid hlm
        have O39 := Lib.hid hown
        have C39 := Lib.hid (cur_below C38.out hl)
        have G39 := Lib.hid (grown_below G38.out hl)
        have R39 := Lib.hid (R38.out.below hl R38.out.lt)
        have NG : Hid (gs ≠ w.heap.size) := show _ ≠ _ from fun e => by have h1 := (O39.out.lt gs rfl).1; have h2 := Z38.out; omega
        have BG : Hid (w.heap.size ≤ w38.heap.size) := Nat.le_of_lt Z38.out
        clear hsrt hlm hown hl SL O38 C38 G38 R38 Z38
        have r0 : w39.cell? ⟨w.heap.size, 0, none⟩ = some (.string ⟨#[]⟩) := R39.out.cell 0
        have r1 : w39.cell? ⟨w.heap.size, 1, none⟩ = some (.slice none 0 0) := R39.out.cell 1
        have q0 := R39.out.free 0
        have q1 := R39.out.free 1
        have F := Lib.hid (filZ_bk R39.out ⟨#[99, 111, 109]⟩ (.slice (some ⟨gs, 0, none⟩) ms cs))
        have OF := Lib.hid (own_filZ O39.out NG.out ⟨#[99, 111, 109]⟩ (.slice (some ⟨gs, 0, none⟩) ms cs))
        have CF := Lib.hid (cur_filZ C39.out GL.out ⟨#[99, 111, 109]⟩ (.slice (some ⟨gs, 0, none⟩) ms cs))
        have GF := Lib.hid (grown_filZ G39.out (Nat.le_refl _) ⟨#[99, 111, 109]⟩ (.slice (some ⟨gs, 0, none⟩) ms cs))
        go_wp2
        exact bodyPost_ret (v := .agg #[.string ⟨#[99, 111, 109]⟩, .slice (some ⟨gs, 0, none⟩) ms cs]) (resZ1 rfl F.out rfl) rfl ⟨t, h, false, false, true, gs, ms, cs, HT.out, rfl, HM.out, MapK.own_mono OF.out BG.out, CF.out, GF.out⟩
      | false =>

        have SL : Hid (Sr w35 w35.heap.size (some ⟨gl, 0, none⟩) 3 (zb t h false false false)) := own_sr O35.out
        go_wp2_with fail
        refine (UniqZ.spec gl 0 3 3 (zb t h false false false) w35 SL.out (by omega) (fine HT.out false false false)).mono ?_
        rintro e w40 ⟨S, gs, ms, cs, hsrt, rfl, hlm, hown, hl⟩
        have hS : S = zs t h false false false := hsrt.unique (srt HT.out false false false)
        subst hS
        rw [thin HT.out] at hlm hown
        have HM := Lib.hid hlm
        have O40 := Lib.hid hown
        have C40 := Lib.hid (cur_below C35.out hl)
        have G40 := Lib.hid (grown_below G35.out hl)
        have R40 := Lib.hid (R35.out.below hl R35.out.lt)
        have NG : Hid (gs ≠ w.heap.size) := show _ ≠ _ from fun e => by have h1 := (O40.out.lt gs rfl).1; have h2 := Z35.out; omega
        have BG : Hid (w.heap.size ≤ w35.heap.size) := Nat.le_of_lt Z35.out
        clear hsrt hlm hown hl SL O35 C35 G35 R35 Z35
        have r0 : w40.cell? ⟨w.heap.size, 0, none⟩ = some (.string ⟨#[]⟩) := R40.out.cell 0
        have r1 : w40.cell? ⟨w.heap.size, 1, none⟩ = some (.slice none 0 0) := R40.out.cell 1
        have q0 := R40.out.free 0
        have q1 := R40.out.free 1
        have F := Lib.hid (filZ_bk R40.out ⟨#[99, 111, 109]⟩ (.slice (some ⟨gs, 0, none⟩) ms cs))
        have OF := Lib.hid (own_filZ O40.out NG.out ⟨#[99, 111, 109]⟩ (.slice (some ⟨gs, 0, none⟩) ms cs))
        have CF := Lib.hid (cur_filZ C40.out GL.out ⟨#[99, 111, 109]⟩ (.slice (some ⟨gs, 0, none⟩) ms cs))
        have GF := Lib.hid (grown_filZ G40.out (Nat.le_refl _) ⟨#[99, 111, 109]⟩ (.slice (some ⟨gs, 0, none⟩) ms cs))
        go_wp2
        exact bodyPost_ret (v := .agg #[.string ⟨#[99, 111, 109]⟩, .slice (some ⟨gs, 0, none⟩) ms cs]) (resZ1 rfl F.out rfl) rfl ⟨t, h, false, false, false, gs, ms, cs, HT.out, rfl, HM.out, MapK.own_mono OF.out BG.out, CF.out, GF.out⟩

end Go.Proofs.YtmabbeefeipnaaaGreatDoor.ZoneD

/- What the model's draws of a name and of a zone with a question do: nothing that was there is turned. -/
namespace Go.Proofs.YtmabbeefeipnaaaGreatDoor.DrawZ
open Go.RowKit Go.Proofs.YtmabbeefeipnaaaGreatDoor.Mem Go.Proofs.YtmabbeefeipnaaaGreatDoor.MemR Go.Proofs.YtmabbeefeipnaaaGreatDoor.MemZ Go.Proofs.YtmabbeefeipnaaaGreatDoor.BoxR Go.Proofs.YtmabbeefeipnaaaGreatDoor.ResR Go.Proofs.YtmabbeefeipnaaaGreatDoor.ResZ Go.Proofs.YtmabbeefeipnaaaGreatDoor.Draw Go.Proofs.YtmabbeefeipnaaaGreatDoor.DrawS Go.Proofs.YtmabbeefeipnaaaGreatDoor.DrawL Go.Proofs.YtmabbeefeipnaaaGreatDoor.DrawN Go.Proofs.YtmabbeefeipnaaaGreatDoor.DrawR Go.Proofs.YtmabbeefeipnaaaGreatDoor.ZoneL Go.Proofs.YtmabbeefeipnaaaGreatDoor.ZoneV Go.Proofs.YtmabbeefeipnaaaGreatDoor.ZoneD

def znames : List ByteArray := [⟨#[]⟩, ⟨#[99, 111, 109]⟩, ⟨#[110, 115, 46, 99, 111, 109]⟩, ⟨#[101, 120, 46, 99, 111, 109]⟩, ⟨#[119, 119, 119, 46, 101, 120, 46, 99, 111, 109]⟩, ⟨#[110, 115, 46, 101, 120, 46, 99, 111, 109]⟩, ⟨#[119, 119, 119, 46, 99, 111, 109]⟩, ⟨#[116, 46, 99, 111, 109]⟩, ⟨#[97, 46, 99, 111, 109]⟩, ⟨#[98, 46, 97, 46, 99, 111, 109]⟩, ⟨#[110, 111, 46, 99, 111, 109]⟩, ⟨#[111, 114, 103]⟩]

theorem znames_short : ∀ x ∈ znames, Short x := all_short _ (by decide)

set_option maxHeartbeats 1000000 in
theorem l10Name_any (g : Nat) (w : World) (hc : Cur w g) : Calls Tryz.prog 17 #[.pointer (some ⟨g, 0, none⟩)] w (Txt w g Short) := by
  have HC := Lib.hid hc
  clear hc
  go_enter Tryz.func17, Tryz.ntmps17
  go_wp2_with fail
  refine (l1Str_any g w.heap.size 12 znames _ (HC.out.alloc _) (bk_texts w znames _ rfl) (Nat.ne_of_gt HC.out.lt) rfl (by omega) (by omega)).mono ?_
  rintro e w1 ⟨x, rfl, hx, hc1, hg1⟩
  have HX := Lib.hid (znames_short x hx)
  have HC1 := Lib.hid hc1
  have HG1 := Lib.hid (grown_trans (World.grownBy_alloc w _ (some g)) hg1)
  clear hc1 hg1 hx
  go_wp2
  go_ret
  exact ⟨x, rfl, HX.out, HC1.out, HG1.out⟩

/-- What is kept while a zone and a question are drawn. -/
def Dz (w : World) (g gz gk gb : Nat) (s : ByteArray) (x : Value) (base gl m cap : Nat) (L : List Rec) (v : World) : Prop :=
  (w.heap.size ≤ gz ∧ gz < gk ∧ gk < g ∧ g < base ∧ g < gb) ∧ Cur v g ∧ Below w.heap.size w v ∧ Bk v gz 26 (zc ⟨#[]⟩ (.slice none 0 0)) ∧ Bk v gk 28 [.string ⟨#[]⟩, .int .i64 0] ∧ Zx v gb s x ∧ v.ownsRow base 40 6 (.slice (some ⟨gl, 0, none⟩) m cap) m (fl L)

theorem Dz.step {w v v' : World} {g gz gk gb base gl m cap : Nat} {s : ByteArray} {x : Value} {L : List Rec} (h : Dz w g gz gk gb s x base gl m cap L v) (hc : Cur v' g) (hg : v.grownBy v' (some g)) : Dz w g gz gk gb s x base gl m cap L v' := by
  obtain ⟨⟨h1, h2, h3, h4, h5⟩, _, hb, k1, k2, k3, ko⟩ := h
  exact ⟨⟨h1, h2, h3, h4, h5⟩, hc, hb.grown hg hb.size (fun j hj => by cases hj; omega), k1.grown hg (fun e => by have := Option.some.inj e; omega), k2.grown hg (fun e => by have := Option.some.inj e; omega), k3.grown hg (fun e => by have := Option.some.inj e; omega), own_far ko hg h4⟩

/-- The call returned a zone that is drawn and a question, and turned nothing that was there. -/
def Zq (w : World) (e : Ending) (w' : World) : Prop :=
  ∃ (t h : Int) (a b c : Bool) (gl m cap : Nat) (nm : ByteArray) (ty : Int), (t, h) ∈ ts ∧ e = .returned (.tuple #[.agg #[.string ⟨#[99, 111, 109]⟩, .slice (some ⟨gl, 0, none⟩) m cap], .agg #[.string nm, .int .i64 ty]]) ∧ nm.size ≤ 20 ∧ (zs t h a b c).length = m ∧ Sr w' w'.heap.size (some ⟨gl, 0, none⟩) m (zs t h a b c) ∧ Below w.heap.size w w'

theorem own_sr2 {w : World} {base gl n cap : Nat} {L : List Rec} (h : w.ownsRow base 40 6 (.slice (some ⟨gl, 0, none⟩) n cap) n (fl L)) : Sr w w.heap.size (some ⟨gl, 0, none⟩) n L := own_sr h

/-- The box g filled with a question. -/
def filK (w : World) (g : Nat) (s : ByteArray) (n : Int) : World := (w.setCell ⟨g, 0, none⟩ (.string s)).setCell ⟨g, 1, none⟩ (.int .i64 n)

theorem ends {w v : World} {g gz gk gb base gl m cap : Nat} {s : ByteArray} {x : Value} {L : List Rec} (h : Dz w g gz gk gb s x base gl m cap L v) (nm : ByteArray) (ty : Int) :
    Bk (filK (filZ v gz s x) gk nm ty) gz 26 (zc s x) ∧ Bk (filK (filZ v gz s x) gk nm ty) gk 28 [.string nm, .int .i64 ty] ∧ Sr (filK (filZ v gz s x) gk nm ty) (filK (filZ v gz s x) gk nm ty).heap.size (some ⟨gl, 0, none⟩) m L ∧ Below w.heap.size w (filK (filZ v gz s x) gk nm ty) := by
  obtain ⟨⟨h1, h2, h3, h4, h5⟩, _, hb, k1, k2, k3, ko⟩ := h
  have lg : base ≤ gl := (ko.lt gl rfl).1
  have n1 : gk ≠ gz := by omega
  have n2 : gz ≠ gk := by omega
  have n3 : gl ≠ gz := by omega
  have n4 : gl ≠ gk := by omega
  have n5 : w.heap.size ≤ gk := by omega
  have b1 := filZ_bk k1 s x
  have b2 := filZ_other (g := gz) k2 n1 s x
  have l1 := filZ_below hb h1 s x
  have o1 := own_filZ (gz := gz) ko n3 s x
  unfold filK
  generalize filZ v gz s x = u at *
  have o2 := own_set (gb := gk) o1 n4 0 (.string nm)
  have e1 := b1.other (p := ⟨gk, 0, none⟩) n2 (.string nm)
  have f1 := b2.set 0 (.string nm)
  have l2 := l1.setCell (p := ⟨gk, 0, none⟩) n5 (.string nm)
  generalize u.setCell ⟨gk, 0, none⟩ (.string nm) = u2 at *
  exact ⟨e1.other (p := ⟨gk, 1, none⟩) n2 (.int .i64 ty), f1.set 1 (.int .i64 ty), own_sr (own_set (gb := gk) o2 n4 1 (.int .i64 ty)), l2.setCell (p := ⟨gk, 1, none⟩) n5 (.int .i64 ty)⟩

set_option maxHeartbeats 16000000 in
set_option maxRecDepth 100000 in
theorem drawZone_any (A : Option Addr) (n c : Nat) (l : List UInt8) (w : World) (hs : Sl w w.heap.size A n l) (hn : n ≤ 1048576) : Calls Tryz.prog 5 #[.slice A n c] w (Zq w) := by
  have mixed : Tryz.prog.follows .mixedOrders = true := by kernel_rfl
  have HS := Lib.hid hs
  have hz1 : (w.alloc (.cells #[.string ⟨#[]⟩, .slice none 0 0] 26)).heap.size = w.heap.size + 1 := by simp
  have K0 : Hid (Bk ((w.alloc (.cells #[.string ⟨#[]⟩, .slice none 0 0] 26)).alloc (.cells #[.string ⟨#[]⟩, .int .i64 0] 28)) w.heap.size 26 (zc ⟨#[]⟩ (.slice none 0 0))) := (show Bk (w.alloc (.cells #[.string ⟨#[]⟩, .slice none 0 0] 26)) w.heap.size 26 (zc ⟨#[]⟩ (.slice none 0 0)) from heap_alloc_new w _).alloc _
  have Q0 : Hid (Bk ((w.alloc (.cells #[.string ⟨#[]⟩, .slice none 0 0] 26)).alloc (.cells #[.string ⟨#[]⟩, .int .i64 0] 28)) (w.heap.size + 1) 28 [.string ⟨#[]⟩, .int .i64 0]) := by
    show Bk _ _ _ _
    rw [← hz1]
    exact heap_alloc_new _ _
  have L0 := Lib.hid (((Below.refl w.heap.size w).alloc (Nat.le_refl _) (.cells #[.string ⟨#[]⟩, .slice none 0 0] 26)).alloc (by simp) (.cells #[.string ⟨#[]⟩, .int .i64 0] 28))
  have N0 : Hid (w.heap.size + 1 < ((w.alloc (.cells #[.string ⟨#[]⟩, .slice none 0 0] 26)).alloc (.cells #[.string ⟨#[]⟩, .int .i64 0] 28)).heap.size) := by show _ < _; simp
  clear hs hz1
  go_enter Tryz.func5, Tryz.ntmps5
  go_upto_region 1 with (fail)
  generalize (w.alloc (.cells #[.string ⟨#[]⟩, .slice none 0 0] 26)).alloc (.cells #[.string ⟨#[]⟩, .int .i64 0] 28) = w0 at *
  go_wp2_with fail
  refine (l1New_any A n c l w0 ((HS.out.below L0.out).wider L0.out.size) hn).mono ?_
  rintro e w1 ⟨rfl, hc1, hg1⟩
  have C1 := Lib.hid hc1
  have L1 := Lib.hid (L0.out.trans ((below_of_grown hg1).mono L0.out.size))
  have K1 := Lib.hid (K0.out.grown hg1 (fun e => by cases e))
  have Q1 := Lib.hid (Q0.out.grown hg1 (fun e => by cases e))
  clear hc1 hg1 K0 Q0 L0
  generalize w0.heap.size = g at *
  go_wp2_with fail
  refine (zone_any g w1 C1.out).mono ?_
  rintro e w2 ⟨t, h, a, b, c', gl, m, cap, hth, rfl, hlm, hown, hc2, hg2⟩
  have HT := Lib.hid hth
  have HM := Lib.hid hlm
  have GA : Hid (g < w1.heap.size) := C1.out.lt
  have NG := N0.out
  have GB : Hid (g < w2.heap.size) := Nat.lt_of_lt_of_le GA.out hg2.size
  have D2 : Hid (Dz w g w.heap.size (w.heap.size + 1) w2.heap.size ⟨#[99, 111, 109]⟩ (.slice (some ⟨gl, 0, none⟩) m cap) w1.heap.size gl m cap (zs t h a b c') (w2.alloc (.cells #[.string ⟨#[99, 111, 109]⟩, .slice (some ⟨gl, 0, none⟩) m cap] 26))) :=
    ⟨⟨Nat.le_refl _, Nat.lt_succ_self _, NG, GA.out, GB.out⟩, hc2.alloc _, (L1.out.grown hg2 L1.out.size (fun j hj => by cases hj; omega)).alloc (Nat.le_trans L1.out.size hg2.size) _, (K1.out.grown hg2 (fun e => by have := Option.some.inj e; omega)).alloc _, (Q1.out.grown hg2 (fun e => by have := Option.some.inj e; omega)).alloc _, zx_new w2 _ _ _, hown.alloc _⟩
  clear hth hlm hown hc2 hg2 C1 L1 K1 Q1 NG N0
  go_upto_region 3 with (fail)
  generalize w2.alloc (.cells #[.string ⟨#[99, 111, 109]⟩, .slice (some ⟨gl, 0, none⟩) m cap] 26) = w3 at *
  generalize w2.heap.size = gb at *
  have DD : Hid (Dz w g w.heap.size (w.heap.size + 1) gb ⟨#[99, 111, 109]⟩ (.slice (some ⟨gl, 0, none⟩) m cap) w1.heap.size gl m cap (zs t h a b c') w3.drew) := D2.out.step (D2.out.2.1.grown (grown_drewN (grown_refl w3 none) 1) (fun _ e => by cases e)) (grown_drewN (grown_refl w3 (some g)) 1)
  have d0 : w3.drew.cell? ⟨gb, 0, none⟩ = some (.string ⟨#[99, 111, 109]⟩) := DD.out.2.2.2.2.2.1.1
  have d1 : w3.drew.cell? ⟨gb, 1, none⟩ = some (.slice (some ⟨gl, 0, none⟩) m cap) := DD.out.2.2.2.2.2.1.2
  clear D2
  go_region_law (first
    | (go_simp; go_at_call 17; refine (l10Name_any g w3.drew DD.out.2.1).mono ?_; rintro e w4 ⟨nm, rfl, hnm, hc4, hg4⟩; have D4 := Lib.hid (DD.out.step hc4 hg4); have y0 := D4.out.2.2.2.2.2.1.1; have y1 := D4.out.2.2.2.2.2.1.2; clear hc4 hg4)
    | (go_simp; go_at_call 18; refine (l5Type_any g w4 D4.out.2.1).mono ?_; rintro e w5 ⟨ty, rfl, hty, hc5, hg5⟩; have D5 := Lib.hid (D4.out.step hc5 hg5); have x0 := D5.out.2.2.2.2.2.1.1; have x1 := D5.out.2.2.2.2.2.1.2; have k0 : w5.cell? ⟨w.heap.size, 0, none⟩ = some (.string ⟨#[]⟩) := D5.out.2.2.2.1.cell 0; have k1 : w5.cell? ⟨w.heap.size, 1, none⟩ = some (.slice none 0 0) := D5.out.2.2.2.1.cell 1; have f0 := D5.out.2.2.2.1.free 0; have f1 := D5.out.2.2.2.1.free 1; have q0 : w5.cell? ⟨w.heap.size + 1, 0, none⟩ = some (.string ⟨#[]⟩) := D5.out.2.2.2.2.1.cell 0; have q1 : w5.cell? ⟨w.heap.size + 1, 1, none⟩ = some (.int .i64 0) := D5.out.2.2.2.2.1.cell 1; have p0 := D5.out.2.2.2.2.1.free 0; have p1 := D5.out.2.2.2.2.1.free 1; clear hc5 hg5))
  all_goals
    have FN := Lib.hid (ends D5.out nm ty)
    go_wp2
    exact bodyPost_ret (v := .tuple #[.agg #[.string ⟨#[99, 111, 109]⟩, .slice (some ⟨gl, 0, none⟩) m cap], .agg #[.string nm, .int .i64 ty]]) (resZQ rfl FN.out.1 FN.out.2.1 rfl rfl) rfl ⟨t, h, a, b, c', gl, m, cap, nm, ty, HT.out, rfl, hnm, HM.out, FN.out.2.2.1, FN.out.2.2.2⟩

end Go.Proofs.YtmabbeefeipnaaaGreatDoor.DrawZ

/- What the model's draw of a zone with a question does, told more: the name is one of twelve, the type one of five; nothing that was there is turned. -/
namespace Go.Proofs.YtmabbeefeipnaaaGreatDoor.DrawZn
open Go.RowKit Go.Proofs.YtmabbeefeipnaaaGreatDoor.Mem Go.Proofs.YtmabbeefeipnaaaGreatDoor.MemR Go.Proofs.YtmabbeefeipnaaaGreatDoor.MemZ Go.Proofs.YtmabbeefeipnaaaGreatDoor.BoxR Go.Proofs.YtmabbeefeipnaaaGreatDoor.ResR Go.Proofs.YtmabbeefeipnaaaGreatDoor.ResZ Go.Proofs.YtmabbeefeipnaaaGreatDoor.Draw Go.Proofs.YtmabbeefeipnaaaGreatDoor.DrawS Go.Proofs.YtmabbeefeipnaaaGreatDoor.DrawL Go.Proofs.YtmabbeefeipnaaaGreatDoor.DrawN Go.Proofs.YtmabbeefeipnaaaGreatDoor.DrawR Go.Proofs.YtmabbeefeipnaaaGreatDoor.ZoneL Go.Proofs.YtmabbeefeipnaaaGreatDoor.ZoneV Go.Proofs.YtmabbeefeipnaaaGreatDoor.ZoneD Go.Proofs.YtmabbeefeipnaaaGreatDoor.DrawZ

set_option maxHeartbeats 1000000 in
theorem l10Name_in (g : Nat) (w : World) (hc : Cur w g) : Calls Tryz.prog 17 #[.pointer (some ⟨g, 0, none⟩)] w (Txt w g (· ∈ znames)) := by
  have HC := Lib.hid hc
  clear hc
  go_enter Tryz.func17, Tryz.ntmps17
  go_wp2_with fail
  refine (l1Str_any g w.heap.size 12 znames _ (HC.out.alloc _) (bk_texts w znames _ rfl) (Nat.ne_of_gt HC.out.lt) rfl (by omega) (by omega)).mono ?_
  rintro e w1 ⟨x, rfl, hx, hc1, hg1⟩
  have HX := Lib.hid hx
  have HC1 := Lib.hid hc1
  have HG1 := Lib.hid (grown_trans (World.grownBy_alloc w _ (some g)) hg1)
  clear hc1 hg1 hx
  go_wp2
  go_ret
  exact ⟨x, rfl, HX.out, HC1.out, HG1.out⟩

/-- The call returned a zone that is drawn and a question, and turned nothing that was there. -/
def Zn (w : World) (e : Ending) (w' : World) : Prop :=
  ∃ (t h : Int) (a b c : Bool) (gl m cap : Nat) (nm : ByteArray) (ty : Int), (t, h) ∈ ts ∧ e = .returned (.tuple #[.agg #[.string ⟨#[99, 111, 109]⟩, .slice (some ⟨gl, 0, none⟩) m cap], .agg #[.string nm, .int .i64 ty]]) ∧ nm ∈ znames ∧ ty ∈ types ∧ (zs t h a b c).length = m ∧ Sr w' w'.heap.size (some ⟨gl, 0, none⟩) m (zs t h a b c) ∧ Below w.heap.size w w'

set_option maxHeartbeats 16000000 in
set_option maxRecDepth 100000 in
theorem drawZone_in (A : Option Addr) (n c : Nat) (l : List UInt8) (w : World) (hs : Sl w w.heap.size A n l) (hn : n ≤ 1048576) : Calls Tryz.prog 5 #[.slice A n c] w (Zn w) := by
  have mixed : Tryz.prog.follows .mixedOrders = true := by kernel_rfl
  have HS := Lib.hid hs
  have hz1 : (w.alloc (.cells #[.string ⟨#[]⟩, .slice none 0 0] 26)).heap.size = w.heap.size + 1 := by simp
  have K0 : Hid (Bk ((w.alloc (.cells #[.string ⟨#[]⟩, .slice none 0 0] 26)).alloc (.cells #[.string ⟨#[]⟩, .int .i64 0] 28)) w.heap.size 26 (zc ⟨#[]⟩ (.slice none 0 0))) := (show Bk (w.alloc (.cells #[.string ⟨#[]⟩, .slice none 0 0] 26)) w.heap.size 26 (zc ⟨#[]⟩ (.slice none 0 0)) from heap_alloc_new w _).alloc _
  have Q0 : Hid (Bk ((w.alloc (.cells #[.string ⟨#[]⟩, .slice none 0 0] 26)).alloc (.cells #[.string ⟨#[]⟩, .int .i64 0] 28)) (w.heap.size + 1) 28 [.string ⟨#[]⟩, .int .i64 0]) := by
    show Bk _ _ _ _
    rw [← hz1]
    exact heap_alloc_new _ _
  have L0 := Lib.hid (((Below.refl w.heap.size w).alloc (Nat.le_refl _) (.cells #[.string ⟨#[]⟩, .slice none 0 0] 26)).alloc (by simp) (.cells #[.string ⟨#[]⟩, .int .i64 0] 28))
  have N0 : Hid (w.heap.size + 1 < ((w.alloc (.cells #[.string ⟨#[]⟩, .slice none 0 0] 26)).alloc (.cells #[.string ⟨#[]⟩, .int .i64 0] 28)).heap.size) := by show _ < _; simp
  clear hs hz1
  go_enter Tryz.func5, Tryz.ntmps5
  go_upto_region 1 with (fail)
  generalize (w.alloc (.cells #[.string ⟨#[]⟩, .slice none 0 0] 26)).alloc (.cells #[.string ⟨#[]⟩, .int .i64 0] 28) = w0 at *
  go_wp2_with fail
  refine (l1New_any A n c l w0 ((HS.out.below L0.out).wider L0.out.size) hn).mono ?_
  rintro e w1 ⟨rfl, hc1, hg1⟩
  have C1 := Lib.hid hc1
  have L1 := Lib.hid (L0.out.trans ((below_of_grown hg1).mono L0.out.size))
  have K1 := Lib.hid (K0.out.grown hg1 (fun e => by cases e))
  have Q1 := Lib.hid (Q0.out.grown hg1 (fun e => by cases e))
  clear hc1 hg1 K0 Q0 L0
  generalize w0.heap.size = g at *
  go_wp2_with fail
  refine (zone_any g w1 C1.out).mono ?_
  rintro e w2 ⟨t, h, a, b, c', gl, m, cap, hth, rfl, hlm, hown, hc2, hg2⟩
  have HT := Lib.hid hth
  have HM := Lib.hid hlm
  have GA : Hid (g < w1.heap.size) := C1.out.lt
  have NG := N0.out
  have GB : Hid (g < w2.heap.size) := Nat.lt_of_lt_of_le GA.out hg2.size
  have D2 : Hid (Dz w g w.heap.size (w.heap.size + 1) w2.heap.size ⟨#[99, 111, 109]⟩ (.slice (some ⟨gl, 0, none⟩) m cap) w1.heap.size gl m cap (zs t h a b c') (w2.alloc (.cells #[.string ⟨#[99, 111, 109]⟩, .slice (some ⟨gl, 0, none⟩) m cap] 26))) :=
    ⟨⟨Nat.le_refl _, Nat.lt_succ_self _, NG, GA.out, GB.out⟩, hc2.alloc _, (L1.out.grown hg2 L1.out.size (fun j hj => by cases hj; omega)).alloc (Nat.le_trans L1.out.size hg2.size) _, (K1.out.grown hg2 (fun e => by have := Option.some.inj e; omega)).alloc _, (Q1.out.grown hg2 (fun e => by have := Option.some.inj e; omega)).alloc _, zx_new w2 _ _ _, hown.alloc _⟩
  clear hth hlm hown hc2 hg2 C1 L1 K1 Q1 NG N0
  go_upto_region 3 with (fail)
  generalize w2.alloc (.cells #[.string ⟨#[99, 111, 109]⟩, .slice (some ⟨gl, 0, none⟩) m cap] 26) = w3 at *
  generalize w2.heap.size = gb at *
  have DD : Hid (Dz w g w.heap.size (w.heap.size + 1) gb ⟨#[99, 111, 109]⟩ (.slice (some ⟨gl, 0, none⟩) m cap) w1.heap.size gl m cap (zs t h a b c') w3.drew) := D2.out.step (D2.out.2.1.grown (grown_drewN (grown_refl w3 none) 1) (fun _ e => by cases e)) (grown_drewN (grown_refl w3 (some g)) 1)
  have d0 : w3.drew.cell? ⟨gb, 0, none⟩ = some (.string ⟨#[99, 111, 109]⟩) := DD.out.2.2.2.2.2.1.1
  have d1 : w3.drew.cell? ⟨gb, 1, none⟩ = some (.slice (some ⟨gl, 0, none⟩) m cap) := DD.out.2.2.2.2.2.1.2
  clear D2
  go_region_law (first
    | (go_simp; go_at_call 17; refine (l10Name_in g w3.drew DD.out.2.1).mono ?_; rintro e w4 ⟨nm, rfl, hnm, hc4, hg4⟩; have D4 := Lib.hid (DD.out.step hc4 hg4); have y0 := D4.out.2.2.2.2.2.1.1; have y1 := D4.out.2.2.2.2.2.1.2; clear hc4 hg4)
    | (go_simp; go_at_call 18; refine (l5Type_any g w4 D4.out.2.1).mono ?_; rintro e w5 ⟨ty, rfl, hty, hc5, hg5⟩; have D5 := Lib.hid (D4.out.step hc5 hg5); have x0 := D5.out.2.2.2.2.2.1.1; have x1 := D5.out.2.2.2.2.2.1.2; have k0 : w5.cell? ⟨w.heap.size, 0, none⟩ = some (.string ⟨#[]⟩) := D5.out.2.2.2.1.cell 0; have k1 : w5.cell? ⟨w.heap.size, 1, none⟩ = some (.slice none 0 0) := D5.out.2.2.2.1.cell 1; have f0 := D5.out.2.2.2.1.free 0; have f1 := D5.out.2.2.2.1.free 1; have q0 : w5.cell? ⟨w.heap.size + 1, 0, none⟩ = some (.string ⟨#[]⟩) := D5.out.2.2.2.2.1.cell 0; have q1 : w5.cell? ⟨w.heap.size + 1, 1, none⟩ = some (.int .i64 0) := D5.out.2.2.2.2.1.cell 1; have p0 := D5.out.2.2.2.2.1.free 0; have p1 := D5.out.2.2.2.2.1.free 1; clear hc5 hg5))
  all_goals
    have FN := Lib.hid (ends D5.out nm ty)
    go_wp2
    exact bodyPost_ret (v := .tuple #[.agg #[.string ⟨#[99, 111, 109]⟩, .slice (some ⟨gl, 0, none⟩) m cap], .agg #[.string nm, .int .i64 ty]]) (resZQ rfl FN.out.1 FN.out.2.1 rfl rfl) rfl ⟨t, h, a, b, c', gl, m, cap, nm, ty, HT.out, rfl, hnm, hty, HM.out, FN.out.2.2.1, FN.out.2.2.2⟩

end Go.Proofs.YtmabbeefeipnaaaGreatDoor.DrawZn

/- Plain mathematics of a server with a zone: the kind of a question, the three sections of its reply. -/
namespace Go.Proofs.YtmabbeefeipnaaaGreatDoor.ServeMath
open Go.RowKit Go.Proofs.YtmabbeefeipnaaaGreatDoor.MemR Go.Proofs.YtmabbeefeipnaaaGreatDoor.SetMath Go.Proofs.YtmabbeefeipnaaaGreatDoor.NameMath Go.Proofs.YtmabbeefeipnaaaGreatDoor.ZoneMath

/-- Which kind of reply a question has: not, down, alias, set, nodata, noname. -/
noncomputable def kd (s nm : ByteArray) (ty : Int) (l : List Rec) : Int :=
  if Un nm s = false then 0 else if (co nm (uq (cn s l))).isSome = true then 1 else if ty ≠ 5 ∧ 0 < (sf nm 5 l).length then 2 else if 0 < (sf nm ty l).length then 3 else if ex nm l = true then 4 else 5

/-- The cut of a name, or the empty name. -/
noncomputable def cu (s nm : ByteArray) (l : List Rec) : ByteArray := (co nm (uq (cn s l))).getD ⟨#[]⟩

/-- The answers. -/
noncomputable def anl (k : Int) (nm : ByteArray) (ty : Int) (l : List Rec) : List Rec := if k = 2 then sf nm 5 l else if k = 3 then sf nm ty l else []

/-- The servers of the cut, or the start. -/
noncomputable def mol (k : Int) (s nm : ByteArray) (l : List Rec) : List Rec := if k = 1 then sf (cu s nm l) 2 l else if k = 4 ∨ k = 5 then [st l] else []

/-- The addresses of the cut's servers. -/
noncomputable def hel (k : Int) (s nm : ByteArray) (l : List Rec) : List Rec := if k = 1 then gl (uq (hl (sf (cu s nm l) 2 l))) l else []

theorem kd_six (s nm : ByteArray) (ty : Int) (l : List Rec) : kd s nm ty l = 0 ∨ kd s nm ty l = 1 ∨ kd s nm ty l = 2 ∨ kd s nm ty l = 3 ∨ kd s nm ty l = 4 ∨ kd s nm ty l = 5 := by
  unfold kd
  repeat' split
  all_goals simp

theorem kd0 {s nm : ByteArray} {ty : Int} {l : List Rec} (h : Un nm s = false) : kd s nm ty l = 0 := if_pos h

theorem kd1 {s nm : ByteArray} {ty : Int} {l : List Rec} (h : Un nm s = true) (h1 : (co nm (uq (cn s l))).isSome = true) : kd s nm ty l = 1 := by
  unfold kd; rw [if_neg (by simp [h]), if_pos h1]

theorem kd2 {s nm : ByteArray} {ty : Int} {l : List Rec} (h : Un nm s = true) (h1 : co nm (uq (cn s l)) = none) (h2 : ty ≠ 5) (h3 : 0 < (sf nm 5 l).length) : kd s nm ty l = 2 := by
  unfold kd; rw [if_neg (by simp [h]), if_neg (by simp [h1]), if_pos ⟨h2, h3⟩]

theorem kd3 {s nm : ByteArray} {ty : Int} {l : List Rec} (h : Un nm s = true) (h1 : co nm (uq (cn s l)) = none) (h2 : ty = 5 ∨ (sf nm 5 l).length = 0) (h3 : 0 < (sf nm ty l).length) : kd s nm ty l = 3 := by
  unfold kd; rw [if_neg (by simp [h]), if_neg (by simp [h1]), if_neg (fun e => by rcases h2 with h | h; exact e.1 h; omega), if_pos h3]

theorem kd4 {s nm : ByteArray} {ty : Int} {l : List Rec} (h : Un nm s = true) (h1 : co nm (uq (cn s l)) = none) (h2 : ty = 5 ∨ (sf nm 5 l).length = 0) (h3 : (sf nm ty l).length = 0) (h4 : ex nm l = true) : kd s nm ty l = 4 := by
  unfold kd; rw [if_neg (by simp [h]), if_neg (by simp [h1]), if_neg (fun e => by rcases h2 with h | h; exact e.1 h; omega), if_neg (by omega), if_pos h4]

theorem kd5 {s nm : ByteArray} {ty : Int} {l : List Rec} (h : Un nm s = true) (h1 : co nm (uq (cn s l)) = none) (h2 : ty = 5 ∨ (sf nm 5 l).length = 0) (h3 : (sf nm ty l).length = 0) (h4 : ex nm l = false) : kd s nm ty l = 5 := by
  unfold kd; rw [if_neg (by simp [h]), if_neg (by simp [h1]), if_neg (fun e => by rcases h2 with h | h; exact e.1 h; omega), if_neg (by omega), if_neg (by simp [h4])]

theorem anl_len (k : Int) (nm : ByteArray) (ty : Int) (l : List Rec) : (anl k nm ty l).length ≤ l.length := by
  unfold anl
  split
  · exact sf_len _ _ _
  · split
    · exact sf_len _ _ _
    · simp

theorem mol_len (k : Int) (s nm : ByteArray) (l : List Rec) : (mol k s nm l).length ≤ l.length + 1 := by
  unfold mol
  split
  · have := sf_len (cu s nm l) 2 l; omega
  · split <;> simp

theorem hel_len (k : Int) (s nm : ByteArray) (l : List Rec) : (hel k s nm l).length ≤ l.length * l.length := by
  unfold hel
  split
  · refine Nat.le_trans (gl_len _ _) (Nat.mul_le_mul ?_ (Nat.le_refl _))
    have h1 := len_uq (hl (sf (cu s nm l) 2 l))
    have h2 := hl_len (sf (cu s nm l) 2 l)
    have h3 := sf_len (cu s nm l) 2 l
    omega
  · simp

/-- The code of a reply of a kind. -/
def rcd (k : Int) : Int := if k = 0 then 5 else if k = 5 then 3 else 0

/-- Whether a reply of a kind is authoritative. -/
def aut (k : Int) : Bool := decide (k ≠ 0 ∧ k ≠ 1)

end Go.Proofs.YtmabbeefeipnaaaGreatDoor.ServeMath

/- What Hosts does in the model. Condition: fewer than 400000001 records. -/
namespace Go.Proofs.YtmabbeefeipnaaaGreatDoor.HostS
open Go.RowKit Go.Proofs.YtmabbeefeipnaaaGreatDoor.Mem Go.Proofs.YtmabbeefeipnaaaGreatDoor.MemR Go.Proofs.YtmabbeefeipnaaaGreatDoor.SetMath Go.Proofs.YtmabbeefeipnaaaGreatDoor.Isin Go.Proofs.YtmabbeefeipnaaaGreatDoor.MemS Go.Proofs.YtmabbeefeipnaaaGreatDoor.AppS

theorem grown_of_below {w w' : World} (h : Below w.heap.size w w') (r : Option Nat) : w.grownBy w' r := ⟨h.os, h.tape, h.output, h.size, fun k hk _ => h.block k hk⟩

set_option maxHeartbeats 1000000 in
theorem has (A : Option Addr) (n c : Nat) (l : List ByteArray) (x : ByteArray) (w : World) (hs : Ss w w.heap.size A n l) (hn : n ≤ 400000000) :
    Calls Tryz.prog 76 #[.slice A n c, .string x] w fun e w' => e = .returned (.bool (isin l x)) ∧ Below w.heap.size w w' := by
  have HS := Lib.hid hs
  clear hs
  go_enter Tryz.func76, Tryz.ntmps76
  go_wp2
  go_loopw [5] (fun i wr => ∃ k : Nat, k ≤ n ∧ i = .int .i64 k ∧ Hid (x ∉ l.take k) ∧ Hid (Below w.heap.size w wr)) (fun i _ => n - (intOf i).toNat)
  case atStart => exact ⟨0, Nat.zero_le _, rfl, not_zero l x, Below.refl _ _⟩
  case round =>
    obtain ⟨k, hk, rfl, HX, HL⟩ := hrel
    by_cases hlt : k < n
    · obtain ⟨b, off, rfl, hbB, hcs⟩ := HS.out.2 (by omega)
      have hkl : k < l.length := by rw [HS.out.1]; exact hlt
      have e0 : wr.cell? ⟨b, off + k, none⟩ = some (.string l[k]) := (HL.out.cell (p := ⟨b, off + k, none⟩) hbB).trans (hcs k hkl)
      clear hcs
      have HI := Lib.hid (isin_at l x k hkl)
      have HO := Lib.hid (not_next l x k hkl)
      generalize l[k] = y at *
      by_cases hne : y = x
      · have HT := Lib.hid (HI.out hne)
        subst hne
        have q1 : (y.toList == y.toList) = true := by simp
        have q2 : (y.data.toList == y.data.toList) = true := by simp
        go_wp2
        go_ret
        exact ⟨by rw [HT.out]; rfl, HL.out⟩
      · have HN := Lib.hid (HO.out HX.out hne)
        have q1 : (y.toList == x.toList) = false := bytes_ne hne
        have q2 : (y.data.toList == x.data.toList) = false := by rw [← ByteArray.toList_eq, ← ByteArray.toList_eq]; exact q1
        clear hne
        go_wp2
        go_roundw
        case rel => exact ⟨k + 1, by omega, by go_num, HN.out, HL.out⟩
        case measure => simp [intOf]; omega
    · obtain rfl : n = k := by omega
      have HF : Hid (isin l x = false) := isin_false (by rw [take_all HS.out.1] at HX; exact HX.out)
      go_wp2
      go_ret
      exact ⟨by rw [HF.out]; rfl, HL.out⟩

set_option maxHeartbeats 4000000 in
theorem spec (b0 o0 n c : Nat) (l : List Rec) (w : World) (hs : Sr w w.heap.size (some ⟨b0, o0, none⟩) n l) (hn : n ≤ 400000000) : Calls Tryz.prog 63 #[.slice (some ⟨b0, o0, none⟩) n c] w (GivesS w (uq (hl l))) := by
  obtain ⟨i0, hi, hz0, hz1, hz2⟩ := info_parts info
  have HS := Lib.hid hs
  clear hs
  have P0 := Lib.hid (owns_new w)
  have L0 := Lib.hid ((Below.refl w.heap.size w).alloc (Nat.le_refl _) (.cells #[] 9))
  go_enter Tryz.func63, Tryz.ntmps63
  go_wp2
  generalize w.alloc (.cells #[] 9) = w0 at *
  go_loopw [3, 4] (fun out i wr => ∃ k g m cap : Nat, k ≤ n ∧ m ≤ k ∧ i = .int .i64 k ∧ out = .slice (some ⟨g, 0, none⟩) m cap ∧ Hid (wr.ownsRow w.heap.size 9 1 (.slice (some ⟨g, 0, none⟩) m cap) m ((uq (hl (l.take k))).map tv)) ∧ Hid (Below w.heap.size w wr)) (fun _ i _ => n - (intOf i).toNat)
  case atStart => exact ⟨0, w.heap.size, 0, 0, Nat.zero_le _, Nat.le_refl _, rfl, rfl, P0.out, L0.out⟩
  case round =>
    clear P0 L0
    obtain ⟨k, g, m, cap, hk, hm, rfl, rfl, HO, HL⟩ := hrel
    by_cases hlt : k < n
    · obtain ⟨b, off, hA, hbB, hcs⟩ := HS.out.2 (by omega)
      obtain ⟨rfl, rfl⟩ : b0 = b ∧ o0 = off := by simp at hA; exact hA
      clear hA
      have hkl : k < l.length := by rw [HS.out.1]; exact hlt
      obtain ⟨e0, e1, e2, e3, e4, e5⟩ := (hcs k hkl).below HL.out hbB
      clear hcs
      have HT := Lib.hid (hl_take l k hkl)
      generalize l[k] = r at *
      by_cases hty : ¬ r.ty = 2
      · have HA := Lib.hid (show uq (hl (l.take (k + 1))) = uq (hl (l.take k)) from by rw [HT.out, if_neg hty, List.append_nil])
        have t0 : (r.ty == 2) = false := by simpa using hty
        clear hty
        go_wp2
        go_roundw
        case rel => exact ⟨k + 1, g, m, cap, by omega, by omega, by go_num, rfl, by rw [HA.out]; exact HO.out, HL.out⟩
        case measure => simp [intOf]; omega
      replace hty : r.ty = 2 := Classical.not_not.1 hty
      have HU := Lib.hid (show uq (hl (l.take (k + 1))) = add (uq (hl (l.take k))) r.host from by rw [HT.out, if_pos hty, uq_snoc])
      have t0 : (r.ty == 2) = true := by simpa using hty
      clear hty
      have HZ : Hid ((uq (hl (l.take k))).length = m) := show _ = _ by have := HO.out.1; simpa using this
      have SS : Hid (∀ W : World, W.ownsRow w.heap.size 9 1 (.slice (some ⟨g, 0, none⟩) m cap) m ((uq (hl (l.take k))).map tv) → Calls Tryz.prog 76 #[.slice (some ⟨g, 0, none⟩) m cap, .string r.host] W fun e w' => e = .returned (.bool (isin (uq (hl (l.take k))) (r.host))) ∧ Below W.heap.size W w') :=
        fun W O => has _ m cap (uq (hl (l.take k))) (r.host) W (show Ss W W.heap.size (some ⟨g, 0, none⟩) m (uq (hl (l.take k))) from by obtain ⟨r', hb, _, _⟩ := bk_of_owns O; exact bk_ssw hb HZ.out) (by omega)
      go_wp2_with fail
      refine (SS.out _ HO.out).mono ?_
      rintro e w1 ⟨rfl, hl⟩
      have O1 := Lib.hid (HO.out.kept (grown_of_below hl none) (Or.inr (fun e => by cases e)))
      have L1 := Lib.hid (HL.out.trans (hl.mono HL.out.size))
      have C1 := (show Ce w1 b0 (o0 + k * 6) r from ⟨(hl.cell (p := ⟨b0, o0 + k * 6, none⟩) (Nat.lt_of_lt_of_le hbB HL.out.size)).trans e0, (hl.cell (p := ⟨b0, o0 + k * 6 + 1, none⟩) (Nat.lt_of_lt_of_le hbB HL.out.size)).trans e1, (hl.cell (p := ⟨b0, o0 + k * 6 + 2, none⟩) (Nat.lt_of_lt_of_le hbB HL.out.size)).trans e2, (hl.cell (p := ⟨b0, o0 + k * 6 + 3, none⟩) (Nat.lt_of_lt_of_le hbB HL.out.size)).trans e3, (hl.cell (p := ⟨b0, o0 + k * 6 + 4, none⟩) (Nat.lt_of_lt_of_le hbB HL.out.size)).trans e4, (hl.cell (p := ⟨b0, o0 + k * 6 + 5, none⟩) (Nat.lt_of_lt_of_le hbB HL.out.size)).trans e5⟩)
      clear hl e0 e1 e2 e3 e4 e5 SS
      obtain ⟨e0, e1, e2, e3, e4, e5⟩ := C1
      by_cases hin : r.host ∈ uq (hl (l.take k))
      · have HA := Lib.hid (HU.out.trans (add_in hin))
        have HB := Lib.hid (isin_true hin)
        clear hin
        rw [HB.out]
        go_wp2
        go_roundw
        case rel => exact ⟨k + 1, g, m, cap, by omega, by omega, by go_num, rfl, by rw [HA.out]; exact O1.out, L1.out⟩
        case measure => simp [intOf]; omega
      · have HA := Lib.hid (HU.out.trans (add_out hin))
        have HB := Lib.hid (isin_false hin)
        clear hin
        rw [HB.out]
        go_wp2_with (at_builtin; refine append_one (w := w1) rfl (.tmp 28) (.tmp 34) 78 rfl w.heap.size 9 i0 _ Tryz.underlying78 hi hz0 hz1 hz2 rfl g m cap (uq (hl (l.take k))) rfl O1.out r.host rfl (by omega) (by have h1 := O1.out.lt g rfl; omega) ?_)
        intro g' cap' w3 hown hgrow
        have O3 := Lib.hid hown
        have L3 := Lib.hid ((L1.out.alloc L1.out.size (.cells #[.string r.host] 9)).grown hgrow (Nat.le_trans L1.out.size (by simp)) (fun j hj => by cases hj; have h1 := O1.out.lt g rfl; omega))
        clear hown hgrow
        go_wp2
        go_roundw
        case rel => exact ⟨k + 1, g', m + 1, cap', by omega, by omega, by go_num, rfl, by rw [HA.out, List.map_append]; exact O3.out, L3.out⟩
        case measure => simp [intOf]; omega
    · obtain rfl : n = k := by omega
      have HN := Lib.hid (take_all HS.out.1)
      go_wp2
      go_ret
      have ho := HO.out
      rw [HN.out] at ho
      exact gives_of_owns ho HL.out
end Go.Proofs.YtmabbeefeipnaaaGreatDoor.HostS

/- What CutsOf does in the model: the names of the cuts, each once. Condition: fewer than 400000001 records, no name of more than 400000000 bytes. -/
namespace Go.Proofs.YtmabbeefeipnaaaGreatDoor.CutsS
open Go.RowKit Go.Proofs.YtmabbeefeipnaaaGreatDoor.Mem Go.Proofs.YtmabbeefeipnaaaGreatDoor.MemR Go.Proofs.YtmabbeefeipnaaaGreatDoor.BoxR Go.Proofs.YtmabbeefeipnaaaGreatDoor.SetMath Go.Proofs.YtmabbeefeipnaaaGreatDoor.NameMath Go.Proofs.YtmabbeefeipnaaaGreatDoor.ZoneMath Go.Proofs.YtmabbeefeipnaaaGreatDoor.MemZ Go.Proofs.YtmabbeefeipnaaaGreatDoor.Isin Go.Proofs.YtmabbeefeipnaaaGreatDoor.MemS Go.Proofs.YtmabbeefeipnaaaGreatDoor.AppS Go.Proofs.YtmabbeefeipnaaaGreatDoor.HostS

set_option maxHeartbeats 8000000 in
theorem spec (s : ByteArray) (b0 o0 n c : Nat) (l : List Rec) (w : World) (hs : Sr w w.heap.size (some ⟨b0, o0, none⟩) n l) (hn : n ≤ 400000000) (hm : s.size ≤ 400000000) (hz : ∀ r ∈ l, r.name.size ≤ 400000000) :
    Calls Tryz.prog 57 #[.agg #[.string s, .slice (some ⟨b0, o0, none⟩) n c]] w (GivesS w (uq (cn s l))) := by
  obtain ⟨i0, hi, hz0, hz1, hz2⟩ := info_parts info
  have Z0 := Lib.hid ((zx_new w 26 s (.slice (some ⟨b0, o0, none⟩) n c)).alloc (.cells #[] 9))
  have L0 := Lib.hid (((Below.refl w.heap.size w).alloc (Nat.le_refl _) (.cells #[.string s, .slice (some ⟨b0, o0, none⟩) n c] 26)).alloc (by simp) (.cells #[] 9))
  have P0 := Lib.hid (owns_new (w.alloc (.cells #[.string s, .slice (some ⟨b0, o0, none⟩) n c] 26)))
  rw [show (w.alloc (.cells #[.string s, .slice (some ⟨b0, o0, none⟩) n c] 26)).heap.size = w.heap.size + 1 by simp] at P0
  have HS := Lib.hid hs
  have HZ := Lib.hid hz
  clear hs hz
  go_enter Tryz.func57, Tryz.ntmps57
  go_wp2
  generalize (w.alloc (.cells #[.string s, .slice (some ⟨b0, o0, none⟩) n c] 26)).alloc (.cells #[] 9) = w0 at *
  go_loopw [3, 4] (fun out i wr => ∃ k g m cap : Nat, k ≤ n ∧ m ≤ k ∧ i = .int .i64 k ∧ out = .slice (some ⟨g, 0, none⟩) m cap ∧ Hid (wr.ownsRow (w.heap.size + 1) 9 1 (.slice (some ⟨g, 0, none⟩) m cap) m ((uq (cn s (l.take k))).map tv)) ∧ Hid (Zx wr w.heap.size s (.slice (some ⟨b0, o0, none⟩) n c)) ∧ Hid (Below w.heap.size w wr)) (fun _ i _ => n - (intOf i).toNat)
  case atStart => exact ⟨0, w.heap.size + 1, 0, 0, Nat.zero_le _, Nat.le_refl _, rfl, rfl, P0.out, Z0.out, L0.out⟩
  case round =>
    clear Z0 L0 P0
    obtain ⟨k, g, m, cap, hk, hm', rfl, rfl, HO, HX, HL⟩ := hrel
    obtain ⟨z0, z1⟩ := HX.out
    have ltz := HX.out.lt
    by_cases hlt : k < n
    · obtain ⟨b, off, hA, hbB, hcs⟩ := HS.out.2 (by omega)
      obtain ⟨rfl, rfl⟩ : b0 = b ∧ o0 = off := by simp at hA; exact hA
      clear hA
      have hkl : k < l.length := by rw [HS.out.1]; exact hlt
      obtain ⟨e0, e1, e2, e3, e4, e5⟩ := (hcs k hkl).below HL.out hbB
      clear hcs
      have HT := Lib.hid (cn_take s l k hkl)
      have HM := Lib.hid (HZ.out _ (List.getElem_mem hkl))
      generalize l[k] = r at *
      have R0 := Lib.hid (bx_new wr 40 r)
      have O0 := Lib.hid (HO.out.alloc (.cells #[.string r.name, .int .i64 r.ty, .int .i64 r.ttl, .int .i64 r.n, .string r.host, .string r.text] 40))
      have X0 := Lib.hid (HX.out.alloc (.cells #[.string r.name, .int .i64 r.ty, .int .i64 r.ttl, .int .i64 r.n, .string r.host, .string r.text] 40))
      have L0 := Lib.hid (HL.out.alloc HL.out.size (.cells #[.string r.name, .int .i64 r.ty, .int .i64 r.ttl, .int .i64 r.n, .string r.host, .string r.text] 40))
      by_cases hty : ¬ r.ty = 2
      · have HA := Lib.hid (show uq (cn s (l.take (k + 1))) = uq (cn s (l.take k)) from by rw [HT.out, isc_false (fun h => hty h.1), if_neg (by decide), List.append_nil])
        have t0 : (r.ty == 2) = false := by simpa using hty
        clear hty
        go_wp2
        go_roundw
        case rel => exact ⟨k + 1, g, m, cap, by omega, by omega, by go_num, rfl, by rw [HA.out]; exact O0.out, X0.out, L0.out⟩
        case measure => simp [intOf]; omega
      replace hty : r.ty = 2 := Classical.not_not.1 hty
      have t0 : (r.ty == 2) = true := by simpa using hty
      by_cases hnm : r.name = s
      · have HA := Lib.hid (show uq (cn s (l.take (k + 1))) = uq (cn s (l.take k)) from by rw [HT.out, isc_false (fun h => h.2.1 hnm), if_neg (by decide), List.append_nil])
        have t1 : (r.name.toList == s.toList) = true := by rw [hnm]; simp
        have t2 : (r.name.data.toList == s.data.toList) = true := by rw [hnm]; simp
        clear hty hnm
        go_wp2
        go_roundw
        case rel => exact ⟨k + 1, g, m, cap, by omega, by omega, by go_num, rfl, by rw [HA.out]; exact O0.out, X0.out, L0.out⟩
        case measure => simp [intOf]; omega
      have t1 : (r.name.toList == s.toList) = false := bytes_ne hnm
      have t2 : (r.name.data.toList == s.data.toList) = false := by rw [← ByteArray.toList_eq, ← ByteArray.toList_eq]; exact t1
      have US := Lib.hid (fun W => Under.spec r.name s W HM.out hm)
      have HU : Hid (Un r.name s = true → uq (cn s (l.take (k + 1))) = add (uq (cn s (l.take k))) r.name) := fun hu => by rw [HT.out, isc_true ⟨hty, hnm, hu⟩, if_pos rfl, uq_snoc]
      have HV : Hid (Un r.name s = false → uq (cn s (l.take (k + 1))) = uq (cn s (l.take k))) := fun hu => by rw [HT.out, isc_false (fun h => by rw [hu] at h; exact absurd h.2.2 (by decide)), if_neg (by decide), List.append_nil]
      generalize Un r.name s = u at *
      clear hty hnm HT
      have HZ2 : Hid ((uq (cn s (l.take k))).length = m) := show _ = _ by have := HO.out.1; simpa using this
      have SS : Hid (∀ W : World, W.ownsRow (w.heap.size + 1) 9 1 (.slice (some ⟨g, 0, none⟩) m cap) m ((uq (cn s (l.take k))).map tv) → Calls Tryz.prog 76 #[.slice (some ⟨g, 0, none⟩) m cap, .string r.name] W fun e w' => e = .returned (.bool (isin (uq (cn s (l.take k))) (r.name))) ∧ Below W.heap.size W w') :=
        fun W O => has _ m cap (uq (cn s (l.take k))) (r.name) W (show Ss W W.heap.size (some ⟨g, 0, none⟩) m (uq (cn s (l.take k))) from by obtain ⟨r', hb, _, _⟩ := bk_of_owns O; exact bk_ssw hb HZ2.out) (by omega)
      go_wp2_with fail
      refine (US.out _).mono ?_
      rintro e w1 ⟨rfl, hl⟩
      have L1 := Lib.hid (L0.out.trans (hl.mono L0.out.size))
      have X1 := Lib.hid (X0.out.below hl)
      have R1 := Lib.hid (R0.out.below hl)
      have O1 := Lib.hid (O0.out.kept (grown_of_below hl none) (Or.inr (fun e => by cases e)))
      clear hl US z0 z1 e0 e1 e2 e3 e4 e5 L0 X0 R0 O0
      obtain ⟨z0, z1⟩ := X1.out
      obtain ⟨r0, r1, r2, r3, r4, r5⟩ := R1.out
      cases u with
      | false =>
        have HA := Lib.hid (HV.out rfl)
        go_wp2
        go_roundw
        case rel => exact ⟨k + 1, g, m, cap, by omega, by omega, by go_num, rfl, by rw [HA.out]; exact O1.out, X1.out, L1.out⟩
        case measure => simp [intOf]; omega
      | true =>
        have HB := Lib.hid (HU.out rfl)
        clear HU HV
        go_wp2_with fail
        refine (SS.out _ O1.out).mono ?_
        rintro e w2 ⟨rfl, hl⟩
        have L2 := Lib.hid (L1.out.trans (hl.mono L1.out.size))
        have X2 := Lib.hid (X1.out.below hl)
        have R2 := Lib.hid (R1.out.below hl)
        have O2 := Lib.hid (O1.out.kept (grown_of_below hl none) (Or.inr (fun e => by cases e)))
        clear hl SS z0 z1 r0 r1 r2 r3 r4 r5 L1 X1 R1 O1
        obtain ⟨z0, z1⟩ := X2.out
        obtain ⟨r0, r1, r2, r3, r4, r5⟩ := R2.out
        by_cases hin : r.name ∈ uq (cn s (l.take k))
        · have HA := Lib.hid (HB.out.trans (add_in hin))
          have HC := Lib.hid (isin_true hin)
          clear hin
          rw [HC.out]
          go_wp2
          go_roundw
          case rel => exact ⟨k + 1, g, m, cap, by omega, by omega, by go_num, rfl, by rw [HA.out]; exact O2.out, X2.out, L2.out⟩
          case measure => simp [intOf]; omega
        · have HA := Lib.hid (HB.out.trans (add_out hin))
          have HC := Lib.hid (isin_false hin)
          clear hin
          have gge : w.heap.size + 1 ≤ g := by obtain ⟨r', _, _, h⟩ := bk_of_owns O2.out; exact h
          rw [HC.out]
          go_wp2_with (at_builtin; refine append_one (w := w2) rfl (.tmp 43) (.tmp 46) 78 rfl (w.heap.size + 1) 9 i0 _ Tryz.underlying78 hi hz0 hz1 hz2 rfl g m cap (uq (cn s (l.take k))) rfl O2.out r.name rfl (by omega) (by have h1 := O2.out.lt g rfl; omega) ?_)
          intro g' cap' w3 hown hgrow
          have O3 := Lib.hid hown
          have X3 := Lib.hid ((X2.out.alloc (.cells #[.string r.name] 9)).grown hgrow (fun e => by have := Option.some.inj e; omega))
          have L3 := Lib.hid ((L2.out.alloc L2.out.size (.cells #[.string r.name] 9)).grown hgrow (Nat.le_trans L2.out.size (by simp)) (fun j hj => by cases hj; omega))
          clear hown hgrow
          go_wp2
          go_roundw
          case rel => exact ⟨k + 1, g', m + 1, cap', by omega, by omega, by go_num, rfl, by rw [HA.out, List.map_append]; exact O3.out, X3.out, L3.out⟩
          case measure => simp [intOf]; omega
    · obtain rfl : n = k := by omega
      have HN := Lib.hid (take_all HS.out.1)
      go_wp2
      go_ret
      have ho := HO.out
      rw [HN.out] at ho
      obtain ⟨r', hb, hc, hg⟩ := bk_of_owns ho
      exact ⟨g, m, cap, r', rfl, by have := ho.1; simpa using this, by rw [← hc, List.length_append]; have := ho.1; omega, by omega, hb, HL.out⟩
end Go.Proofs.YtmabbeefeipnaaaGreatDoor.CutsS

/- What CutOf and InZone do in the model. Condition: fewer than 400000001 records, no name of more than 400000000 bytes. -/
namespace Go.Proofs.YtmabbeefeipnaaaGreatDoor.CutOfS
open Go.RowKit Go.Proofs.YtmabbeefeipnaaaGreatDoor.Mem Go.Proofs.YtmabbeefeipnaaaGreatDoor.MemR Go.Proofs.YtmabbeefeipnaaaGreatDoor.BoxR Go.Proofs.YtmabbeefeipnaaaGreatDoor.SetMath Go.Proofs.YtmabbeefeipnaaaGreatDoor.NameMath Go.Proofs.YtmabbeefeipnaaaGreatDoor.ZoneMath Go.Proofs.YtmabbeefeipnaaaGreatDoor.MemZ Go.Proofs.YtmabbeefeipnaaaGreatDoor.MemS Go.Proofs.YtmabbeefeipnaaaGreatDoor.AppS

set_option maxHeartbeats 8000000 in
theorem spec (s nm : ByteArray) (b0 o0 n c : Nat) (l : List Rec) (w : World) (hs : Sr w w.heap.size (some ⟨b0, o0, none⟩) n l) (hn : n ≤ 400000000) (hm : s.size ≤ 400000000) (hq : nm.size ≤ 400000000) (hz : ∀ r ∈ l, r.name.size ≤ 400000000) :
    Calls Tryz.prog 25 #[.agg #[.string s, .slice (some ⟨b0, o0, none⟩) n c], .string nm] w fun e w' => e = .returned (cv (co nm (uq (cn s l)))) ∧ Below w.heap.size w w' := by
  have L0 := Lib.hid ((Below.refl w.heap.size w).alloc (Nat.le_refl _) (.cells #[.string s, .slice (some ⟨b0, o0, none⟩) n c] 26))
  have X0 := Lib.hid (zx_new w 26 s (.slice (some ⟨b0, o0, none⟩) n c))
  have CS := Lib.hid (fun W hW => CutsS.spec s b0 o0 n c l W hW hn hm hz)
  have S0 := Lib.hid (hs.on L0.out)
  have HLN : Hid ((uq (cn s l)).length ≤ 400000000) := by show _ ≤ _; have h1 := len_uq (cn s l); have h2 := cn_len s l; have := hs.1; omega
  have HZ : Hid (∀ x ∈ uq (cn s l), x.size ≤ 400000000) := fun x hx => by obtain ⟨r, hr, rfl⟩ := cn_mem (mem_uq.1 hx); exact hz r hr
  clear hs hz
  generalize uq (cn s l) = L at *
  obtain ⟨x0, x1⟩ := X0.out
  go_enter Tryz.func25, Tryz.ntmps25
  go_wp2_with fail
  refine (CS.out _ S0.out).mono ?_
  rintro e w1 ⟨g, m, cap, r', rfl, hlm, hmc, hg, hb, hl⟩
  have HM := Lib.hid hlm
  have hm' : m ≤ 400000000 := by have := HLN.out; omega
  have B1 := Lib.hid hb
  have L1 := Lib.hid (L0.out.trans (hl.mono L0.out.size))
  clear hlm hmc hg hb hl CS S0 X0 L0 x0 x1 HLN
  go_wp2
  go_loopw [7] (fun i wr => ∃ k : Nat, k ≤ m ∧ i = .int .i64 k ∧ Hid (co nm (L.take k) = none) ∧ Hid (Bk wr g 9 (L.map tv ++ r')) ∧ Hid (Below w.heap.size w wr)) (fun i _ => m - (intOf i).toNat)
  case atStart => exact ⟨0, Nat.zero_le _, rfl, rfl, B1.out, L1.out⟩
  case round =>
    clear B1 L1
    obtain ⟨k, hk, rfl, HE, HB, HL⟩ := hrel
    by_cases hlt : k < m
    · have hkl : k < L.length := by rw [HM.out]; exact hlt
      have e0 : wr.cell? ⟨g, k, none⟩ = some (.string L[k]) := by
        rw [HB.out.cell, List.getElem?_append_left (by rw [List.length_map]; exact hkl), tv_get]
      have HH := Lib.hid (fun e => co_hit nm L k hkl e HE.out)
      have HN := Lib.hid (fun e => co_next nm L k hkl e HE.out)
      have HY := Lib.hid (HZ.out _ (List.getElem_mem hkl))
      generalize L[k] = y at *
      have US := Lib.hid (fun W => Under.spec nm y W hq HY.out)
      generalize Un nm y = u at *
      go_wp2_with fail
      refine (US.out _).mono ?_
      rintro e w2 ⟨rfl, hl⟩
      have e1 : w2.cell? ⟨g, k, none⟩ = some (.string y) := (hl.cell (p := ⟨g, k, none⟩) HB.out.lt).trans e0
      have B2 := Lib.hid (HB.out.below hl HB.out.lt)
      have L2 := Lib.hid (HL.out.trans (hl.mono HL.out.size))
      clear hl US e0
      cases u with
      | true =>
        have HF := Lib.hid (HH.out rfl)
        clear HH HN
        go_wp2
        go_ret2
        exact ⟨congrArg (fun b => Ending.returned (cv b)) HF.out.symm, L2.out⟩
      | false =>
        have HF := Lib.hid (HN.out rfl)
        clear HH HN
        go_wp2
        go_roundw
        case rel => exact ⟨k + 1, by omega, by go_num, HF.out, B2.out, L2.out⟩
        case measure => simp [intOf]; omega
    · obtain rfl : m = k := by omega
      have HF : Hid (co nm L = none) := by rw [take_all HM.out] at HE; exact HE
      go_wp2
      go_ret2
      exact ⟨congrArg (fun b => Ending.returned (cv b)) HF.out.symm, HL.out⟩

/-- A name is in the zone. -/
noncomputable def iz (s nm : ByteArray) (l : List Rec) : Bool := Un nm s && !(co nm (uq (cn s l))).isSome

end Go.Proofs.YtmabbeefeipnaaaGreatDoor.CutOfS
