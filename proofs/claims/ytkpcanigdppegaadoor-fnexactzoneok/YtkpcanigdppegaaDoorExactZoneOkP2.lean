/- A new slice of records that a call gives back, and laws on append of records. -/
import Derived.Test.YtkpcanigdppegaaDoorZokMath
import Derived.Test.YtkpcanigdppegaaDoorMemZ
import Derived.Test.YtkpcanigdppegaaDoorUnderImpl
import Derived.Test.YtkpcanigdppegaaDoorExactZoneOkP1
import Derived.Deep.DeepCutAuto
import Derived.IntWalk
import Derived.Test.YtkpcanigdppegaaDoorBoxR
import Derived.Laws.ResultCell
import Derived.Test.YtkpcanigdppegaaDoorZoneMath
import Derived.Test.YtkpcanigdppegaaDoorMapK
import Derived.Test.YtkpcanigdppegaaDoorMemR
import Derived.Test.YtkpcanigdppegaaDoorCopyR
/- What recordsOk does in the program: at most so many records, all of them valid. Condition: fewer than 400000001 records, of at most 400000000 bytes a text. -/
namespace Go.Proofs.YtkpcanigdppegaaDoor.RecsOk
open Go.RowKit Go.Proofs.YtkpcanigdppegaaDoor.Mem Go.Proofs.YtkpcanigdppegaaDoor.MemR Go.Proofs.YtkpcanigdppegaaDoor.SetMath Go.Proofs.YtkpcanigdppegaaDoor.NameMath Go.Proofs.YtkpcanigdppegaaDoor.NameOk Go.Proofs.YtkpcanigdppegaaDoor.ZoneMath Go.Proofs.YtkpcanigdppegaaDoor.MemZ Go.Proofs.YtkpcanigdppegaaDoor.RecOk Go.Proofs.YtkpcanigdppegaaDoor.LessR Go.Proofs.YtkpcanigdppegaaDoor.ZokMath Go.Proofs.YtkpcanigdppegaaDoor.Labels

/-- At most m records, all valid. A def, so that no step of a walk opens it. -/
def Ro (m : Nat) (l : List Rec) : Prop := l.length ≤ m ∧ ∀ r ∈ l, rok r = true

set_option maxHeartbeats 4000000 in
theorem impl (m : Nat) (b0 o0 n c : Nat) (l : List Rec) (w : World) (hs : Sr w w.heap.size (some ⟨b0, o0, none⟩) n l) (hn : n ≤ 400000000) (he : Env w) (hm : ∀ r ∈ l, Mod r) :
    Calls Tryd.prog 39 #[.slice (some ⟨b0, o0, none⟩) n c, .int .i64 (m : Int)] w fun e w' => e = .returned (.bool (dec (Ro m l))) ∧ Below w.heap.size w w' := by
  have HE := Lib.hid he
  have HS := Lib.hid hs
  have HM := Lib.hid hm
  clear hs hm he
  by_cases h8 : ¬ n ≤ m
  · have h8' : (m : Int) < (n : Int) := by omega
    have HN : Hid (dec (Ro m l) = false) := dec_false (fun h => h8 (by rw [← HS.out.1]; exact h.1))
    go_enter Tryd.func39, Tryd.ntmps39
    go_wp2
    go_ret
    exact ⟨congrArg (fun b => Ending.returned (Value.bool b)) HN.out.symm, Below.refl _ _⟩
  have h8' : ¬ (m : Int) < (n : Int) := by omega
  go_enter Tryd.func39, Tryd.ntmps39
  go_wp2
  go_loopw [13] (fun i wr => ∃ k : Nat, k ≤ n ∧ i = .int .i64 k ∧ Hid (∀ r ∈ l.take k, rok r = true) ∧ Hid (Below w.heap.size w wr)) (fun i _ => n - (intOf i).toNat)
  case atStart => exact ⟨0, Nat.zero_le _, rfl, fun r hr => by simp at hr, Below.refl _ _⟩
  case round =>
    obtain ⟨k, hk, rfl, HK, HL⟩ := hrel
    by_cases hlt : k < n
    · obtain ⟨b, off, hA, hbB, hcs⟩ := HS.out.2 (by omega)
      obtain ⟨rfl, rfl⟩ : b0 = b ∧ o0 = off := by simp at hA; exact hA
      clear hA
      have hkl : k < l.length := by rw [HS.out.1]; exact hlt
      obtain ⟨e0, e1, e2, e3, e4, e5⟩ := (hcs k hkl).below HL.out hbB
      clear hcs
      have HR := Lib.hid (HM.out l[k] (List.getElem_mem hkl))
      have HIN : Hid (l[k] ∈ l) := List.getElem_mem hkl
      have HT := Lib.hid (List.take_succ_eq_append_getElem hkl)
      generalize l[k] = r at *
      have LA := Lib.hid (HL.out.alloc HL.out.size (.cells #[.string r.name, .int .i64 r.ty, .int .i64 r.ttl, .int .i64 r.n, .string r.host, .string r.text] 39))
      have CO := Lib.hid (fun W hW => RecOk.impl r W hW HR.out)
      cases hb : rok r with
      | false =>
        have HN : Hid (dec (Ro m l) = false) := dec_false (fun h => by have := h.2 r HIN.out; rw [hb] at this; cases this)
        rw [hb] at CO
        clear hb
        go_wp2_with fail
        refine (CO.out _ (HE.out.below LA.out)).mono ?_
        rintro e w1 ⟨rfl, hl⟩
        have L1 := Lib.hid (LA.out.trans (hl.mono LA.out.size))
        clear hl CO e0 e1 e2 e3 e4 e5
        go_wp2
        go_ret
        exact ⟨congrArg (fun b => Ending.returned (Value.bool b)) HN.out.symm, L1.out⟩
      | true =>
        have HN : Hid (∀ x ∈ l.take (k + 1), rok x = true) := fun x hx => by
          rw [HT.out, List.mem_append, List.mem_singleton] at hx
          rcases hx with hx | rfl
          · exact HK.out x hx
          · exact hb
        rw [hb] at CO
        clear hb
        go_wp2_with fail
        refine (CO.out _ (HE.out.below LA.out)).mono ?_
        rintro e w1 ⟨rfl, hl⟩
        have L1 := Lib.hid (LA.out.trans (hl.mono LA.out.size))
        clear hl CO e0 e1 e2 e3 e4 e5
        go_wp2
        go_roundw
        case rel => exact ⟨k + 1, by omega, by go_num, HN.out, L1.out⟩
        case measure => simp [intOf]; omega
    · obtain rfl : n = k := by omega
      have HF : Hid (dec (Ro m l) = true) := dec_true ⟨by rw [HS.out.1]; omega, by have := HK.out; rw [take_all HS.out.1] at this; exact this⟩
      go_wp2
      go_ret
      exact ⟨congrArg (fun b => Ending.returned (Value.bool b)) HF.out.symm, HL.out⟩

end Go.Proofs.YtkpcanigdppegaaDoor.RecsOk

/- What allUnder does in the program: it tells whether every record's name is under the apex. Condition: fewer than 400000001 records, no name of more than 400000000 bytes. -/
namespace Go.Proofs.YtkpcanigdppegaaDoor.AllU
open Go.RowKit Go.Proofs.YtkpcanigdppegaaDoor.Mem Go.Proofs.YtkpcanigdppegaaDoor.MemR Go.Proofs.YtkpcanigdppegaaDoor.SetMath Go.Proofs.YtkpcanigdppegaaDoor.NameMath Go.Proofs.YtkpcanigdppegaaDoor.NameOk Go.Proofs.YtkpcanigdppegaaDoor.ZoneMath Go.Proofs.YtkpcanigdppegaaDoor.MemZ Go.Proofs.YtkpcanigdppegaaDoor.RecOk Go.Proofs.YtkpcanigdppegaaDoor.LessR Go.Proofs.YtkpcanigdppegaaDoor.ZokMath Go.Proofs.YtkpcanigdppegaaDoor.Labels

set_option maxHeartbeats 4000000 in
theorem impl (s : ByteArray) (b0 o0 n c : Nat) (l : List Rec) (w : World) (hs : Sr w w.heap.size (some ⟨b0, o0, none⟩) n l) (hn : n ≤ 400000000) (hm : s.size ≤ 400000000) (hz : ∀ r ∈ l, r.name.size ≤ 400000000) :
    Calls Tryd.prog 40 #[.slice (some ⟨b0, o0, none⟩) n c, .string s] w fun e w' => e = .returned (.bool (dec (Alln l.length (Pu s l)))) ∧ Below w.heap.size w w' := by
  have HS := Lib.hid hs
  have HZ := Lib.hid hz
  clear hs hz
  go_enter Tryd.func40, Tryd.ntmps40
  go_wp2
  go_loopw [9] (fun i wr => ∃ k : Nat, k ≤ n ∧ i = .int .i64 k ∧ Hid (Alln k (Pu s l)) ∧ Hid (Below w.heap.size w wr)) (fun i _ => n - (intOf i).toNat)
  case atStart => exact ⟨0, Nat.zero_le _, rfl, alln_zero, Below.refl _ _⟩
  case round =>
    obtain ⟨k, hk, rfl, HE, HL⟩ := hrel
    by_cases hlt : k < n
    · obtain ⟨b, off, hA, hbB, hcs⟩ := HS.out.2 (by omega)
      obtain ⟨rfl, rfl⟩ : b0 = b ∧ o0 = off := by simp at hA; exact hA
      clear hA
      have hkl : k < l.length := by rw [HS.out.1]; exact hlt
      obtain ⟨e0, e1, e2, e3, e4, e5⟩ := (hcs k hkl).below HL.out hbB
      clear hcs
      have HP : Hid (Pu s l k ↔ Un l[k].name s = true) := show _ ↔ _ by rw [Pu, at0_get hkl]
      have HM := Lib.hid (HZ.out _ (List.getElem_mem hkl))
      generalize l[k] = r at *
      have W1 : Hid (Below w.heap.size w (wr.alloc (.cells #[.string r.name, .int .i64 r.ty, .int .i64 r.ttl, .int .i64 r.n, .string r.host, .string r.text] 39))) := HL.out.alloc HL.out.size _
      have US := Lib.hid (fun W => UnderImpl.impl r.name s W HM.out hm)
      generalize Un r.name s = u at *
      go_wp2_with fail
      refine (US.out _).mono ?_
      rintro e w1 ⟨rfl, rfl⟩
      clear US e0 e1 e2 e3 e4 e5
      cases u with
      | false =>
        have HF := Lib.hid (dec_false (alln_not hkl (fun h => by have := HP.out.1 h; cases this)))
        clear HP
        go_wp2
        go_ret
        exact ⟨congrArg (fun b => Ending.returned (Value.bool b)) HF.out.symm, W1.out⟩
      | true =>
        have HN := Lib.hid (alln_next HE.out (HP.out.2 rfl))
        clear HP
        go_wp2
        go_roundw
        case rel => exact ⟨k + 1, by omega, by go_num, HN.out, W1.out⟩
        case measure => simp [intOf]; omega
    · obtain rfl : n = k := by omega
      have HF : Hid (dec (Alln l.length (Pu s l)) = true) := dec_true (by rw [HS.out.1]; exact HE.out)
      go_wp2
      go_ret
      exact ⟨congrArg (fun b => Ending.returned (Value.bool b)) HF.out.symm, HL.out⟩

end Go.Proofs.YtkpcanigdppegaaDoor.AllU

/- What inOrder does in the program: every record comes behind the one ahead of it, and neighbours of one key have one time to live. Condition: fewer than 400000001 records, of at most 400000000 bytes a text. -/
namespace Go.Proofs.YtkpcanigdppegaaDoor.OrdI
open Go.RowKit Go.Proofs.YtkpcanigdppegaaDoor.Mem Go.Proofs.YtkpcanigdppegaaDoor.MemR Go.Proofs.YtkpcanigdppegaaDoor.SetMath Go.Proofs.YtkpcanigdppegaaDoor.NameMath Go.Proofs.YtkpcanigdppegaaDoor.NameOk Go.Proofs.YtkpcanigdppegaaDoor.ZoneMath Go.Proofs.YtkpcanigdppegaaDoor.MemZ Go.Proofs.YtkpcanigdppegaaDoor.RecOk Go.Proofs.YtkpcanigdppegaaDoor.LessR Go.Proofs.YtkpcanigdppegaaDoor.ZokMath Go.Proofs.YtkpcanigdppegaaDoor.Labels Go.Proofs.YtkpcanigdppegaaDoor.BoxR

theorem bx_newE (w : World) (t : TypeId) (r : Rec) (g : Nat) (e : w.heap.size = g) : Bx (w.alloc (.cells #[.string r.name, .int .i64 r.ty, .int .i64 r.ttl, .int .i64 r.n, .string r.host, .string r.text] t)) g r := e ▸ bx_new w t r

theorem bx_drew {w : World} {g : Nat} {r : Rec} (h : Bx w g r) : Bx w.drew g r := h

set_option maxRecDepth 100000 in
set_option maxHeartbeats 8000000 in
theorem impl (b0 o0 n c : Nat) (l : List Rec) (w : World) (hs : Sr w w.heap.size (some ⟨b0, o0, none⟩) n l) (hn : n ≤ 400000000) (he : Env w) (hz : ∀ r ∈ l, Fine r) :
    Calls Tryd.prog 41 #[.slice (some ⟨b0, o0, none⟩) n c] w fun e w' => e = .returned (.bool (dec (Alln l.length (Po l)))) ∧ Below w.heap.size w w' := by
  have mixed : Tryd.prog.follows .mixedOrders = true := by kernel_rfl
  have HS := Lib.hid hs
  have HZ := Lib.hid hz
  have HV := Lib.hid he
  clear hs hz he
  go_enter Tryd.func41, Tryd.ntmps41
  go_wp2
  go_loopw [3] (fun i wr => ∃ j : Nat, i = .int .i64 ((j : Int) + 1) ∧ (j = 0 ∨ j + 1 ≤ n) ∧ Hid (Alln (j + 1) (Po l)) ∧ Hid (Below w.heap.size w wr)) (fun i _ => n + 1 - (intOf i).toNat)
  case atStart => exact ⟨0, rfl, Or.inl rfl, fun i hi => Or.inl (by omega), Below.refl _ _⟩
  case round =>
    obtain ⟨j, rfl, hj, HE, HL⟩ := hrel
    by_cases hlt : j + 1 < n
    · obtain ⟨b, off, hA, hbB, hcs⟩ := HS.out.2 (by omega)
      obtain ⟨rfl, rfl⟩ : b0 = b ∧ o0 = off := by simp at hA; exact hA
      clear hA
      have hj0 : j < l.length := by rw [HS.out.1]; omega
      have hj1 : j + 1 < l.length := by rw [HS.out.1]; exact hlt
      obtain ⟨p0, p1, p2, p3, p4, p5⟩ := (hcs j hj0).below HL.out hbB
      obtain ⟨e0, e1, e2, e3, e4, e5⟩ := (hcs (j + 1) hj1).below HL.out hbB
      clear hcs
      have HP : Hid (Po l (j + 1) ↔ (lr l[j] l[j + 1] = true ∧ ¬ (l[j].name = l[j + 1].name ∧ l[j].ty = l[j + 1].ty ∧ l[j].ttl ≠ l[j + 1].ttl))) := show _ ↔ _ by
        rw [Po, Nat.add_sub_cancel, at0_get hj0, at0_get hj1]
        exact ⟨fun h => h.elim (fun h => absurd h (by omega)) id, Or.inr⟩
      have F0 := Lib.hid (HZ.out _ (List.getElem_mem hj0))
      have F1 := Lib.hid (HZ.out _ (List.getElem_mem hj1))
      generalize l[j] = p at *
      generalize l[j + 1] = r at *
      have i1 : (j : Int) + 1 < (n : Int) := by omega
      have i2 : (j : Int) + 1 - 1 = (j : Int) := by omega
      have i3 : (j : Int) < (n : Int) := by omega
      have i4 : IntKind.i64.wrap (j : Int) = (j : Int) := IntWalk.i64_in _ (by omega)
      have i5 : IntKind.i64.wrap ((j : Int) + 1) = (j : Int) + 1 := IntWalk.i64_in _ (by omega)
      have ltb : b0 < wr.heap.size := Nat.lt_of_lt_of_le hbB HL.out.size
      go_wp2
      go_cut [4, 5] (fun a b wx => ∃ gx gy, a = .pointer (some ⟨gx, 0, none⟩) ∧ b = .pointer (some ⟨gy, 0, none⟩) ∧ Hid (Bx wx gx p) ∧ Hid (Bx wx gy r) ∧ Hid (Below w.heap.size w wx))
      case first =>
        go_region
        all_goals
          go_wp2_with fail
          go_meet
          case rel =>
            refine ⟨_, _, rfl, rfl, ?_, ?_, ?_⟩
            · show Bx _ _ _
              refine bx_drew ?_
              first | (refine bx_newE _ _ _ _ ?_; simp; done) | (refine Bx.alloc ?_ _; refine bx_newE _ _ _ _ ?_; simp; done)
            · show Bx _ _ _
              refine bx_drew ?_
              first | (refine bx_newE _ _ _ _ ?_; simp; done) | (refine Bx.alloc ?_ _; refine bx_newE _ _ _ _ ?_; simp; done)
            · show Below _ _ _
              exact ((HL.out.alloc HL.out.size _).alloc (Nat.le_trans HL.out.size (by simp)) _).drew
      case rest =>
        obtain ⟨gx, gy, rfl, rfl, X1, Y1, L1⟩ := hcut
        clear HL p0 p1 p2 p3 p4 p5 e0 e1 e2 e3 e4 e5 i1 i2 i3 i4 ltb
        have LC := Lib.hid (fun W (h : Below w.heap.size w W) => LessR.impl p r W (HV.out.below h) F0.out F1.out)
        obtain ⟨x0, x1, x2, x3, x4, x5⟩ := X1.out
        obtain ⟨y0, y1, y2, y3, y4, y5⟩ := Y1.out
        cases hlr : lr p r with
        | false =>
          have HF := Lib.hid (dec_false (alln_not hj1 (fun h => by have := (HP.out.1 h).1; rw [hlr] at this; cases this)))
          rw [hlr] at LC
          clear hlr HP
          go_wp2_with fail
          refine (LC.out _ L1.out).mono ?_
          rintro e w2 ⟨rfl, hl⟩
          have L2 := Lib.hid (L1.out.trans (hl.mono L1.out.size))
          clear hl LC x0 x1 x2 x3 x4 x5 y0 y1 y2 y3 y4 y5
          go_wp2
          go_ret
          exact ⟨congrArg (fun b => Ending.returned (Value.bool b)) HF.out.symm, L2.out⟩
        | true =>
          have HP2 : Hid (Po l (j + 1) ↔ ¬ (p.name = r.name ∧ p.ty = r.ty ∧ p.ttl ≠ r.ttl)) := ⟨fun h => (HP.out.1 h).2, fun h => HP.out.2 ⟨hlr, h⟩⟩
          rw [hlr] at LC
          clear hlr HP
          go_wp2_with fail
          refine (LC.out _ L1.out).mono ?_
          rintro e w2 ⟨rfl, hl⟩
          have L2 := Lib.hid (L1.out.trans (hl.mono L1.out.size))
          have X2 := Lib.hid (X1.out.below hl)
          have Y2 := Lib.hid (Y1.out.below hl)
          clear hl LC x0 x1 x2 x3 x4 x5 y0 y1 y2 y3 y4 y5 X1 Y1 L1
          go_upto_region 1 with (fail)
          have x0 : ∀ d os, (Sort.grow (redrawn w2 d) os).cell? _ = some _ := fun d os => (X2.out.drawn d os).1
          have x1 : ∀ d os, (Sort.grow (redrawn w2 d) os).cell? _ = some _ := fun d os => (X2.out.drawn d os).2.1
          have x2 : ∀ d os, (Sort.grow (redrawn w2 d) os).cell? _ = some _ := fun d os => (X2.out.drawn d os).2.2.1
          have x3 : ∀ d os, (Sort.grow (redrawn w2 d) os).cell? _ = some _ := fun d os => (X2.out.drawn d os).2.2.2.1
          have x4 : ∀ d os, (Sort.grow (redrawn w2 d) os).cell? _ = some _ := fun d os => (X2.out.drawn d os).2.2.2.2.1
          have x5 : ∀ d os, (Sort.grow (redrawn w2 d) os).cell? _ = some _ := fun d os => (X2.out.drawn d os).2.2.2.2.2
          have y0 : ∀ d os, (Sort.grow (redrawn w2 d) os).cell? _ = some _ := fun d os => (Y2.out.drawn d os).1
          have y1 : ∀ d os, (Sort.grow (redrawn w2 d) os).cell? _ = some _ := fun d os => (Y2.out.drawn d os).2.1
          have y2 : ∀ d os, (Sort.grow (redrawn w2 d) os).cell? _ = some _ := fun d os => (Y2.out.drawn d os).2.2.1
          have y3 : ∀ d os, (Sort.grow (redrawn w2 d) os).cell? _ = some _ := fun d os => (Y2.out.drawn d os).2.2.2.1
          have y4 : ∀ d os, (Sort.grow (redrawn w2 d) os).cell? _ = some _ := fun d os => (Y2.out.drawn d os).2.2.2.2.1
          have y5 : ∀ d os, (Sort.grow (redrawn w2 d) os).cell? _ = some _ := fun d os => (Y2.out.drawn d os).2.2.2.2.2
          have KP := Lib.hid (fun W (_ : Below w2.heap.size w2 W) => KeyI.keyOf p W)
          have KR := Lib.hid (fun W (_ : Below w2.heap.size w2 W) => KeyI.keyOf r W)
          by_cases hk : ¬ (p.name = r.name ∧ p.ty = r.ty)
          · have HN := Lib.hid (alln_next HE.out (HP2.out.2 (fun h => hk ⟨h.1, h.2.1⟩)))
            have q := EqlQ.eql_diff hk
            clear hk HP2
            go_wp2_with fail
            refine wp_region_quiet_below (by assumption) (by kernel_rfl) ?_
            repeat (quiet_step (first | (go_at_call 70; with_reducible exact in_class KP.out) | (go_at_call 70; with_reducible exact in_class KR.out)))
            refine wpQuiet_nil ?_
            intro w3 hw3
            have hl := of_class hw3
            have L3 := Lib.hid (L2.out.trans (hl.mono L2.out.size))
            clear hw3 hl x0 x1 x2 x3 x4 x5 y0 y1 y2 y3 y4 y5 q KP KR
            go_wp2
            go_roundw
            case rel => exact ⟨j + 1, by go_num, Or.inr (by omega), HN.out, L3.out⟩
            case measure => simp [intOf]; omega
          replace hk := Classical.not_not.1 hk
          have q : ∀ w : World, Sem.run Tryd.prog (binOp .eql 28 (.agg #[.string p.name, .int .i64 p.ty]) (.agg #[.string r.name, .int .i64 r.ty])) w = .ok (.bool true) w := fun w => by
            rw [hk.1, hk.2]
            exact EqlQ.eql_same r.name r.ty w
          by_cases ht : p.ttl = r.ttl
          · have HN := Lib.hid (alln_next HE.out (HP2.out.2 (fun h => h.2.2 ht)))
            have t0 : (p.ttl != r.ttl) = false := by simpa using ht
            clear hk HP2 ht
            go_wp2_with fail
            refine wp_region_quiet_below (by assumption) (by kernel_rfl) ?_
            repeat (quiet_step (first | (go_at_call 70; with_reducible exact in_class KP.out) | (go_at_call 70; with_reducible exact in_class KR.out)))
            refine wpQuiet_nil ?_
            intro w3 hw3
            have hl := of_class hw3
            have L3 := Lib.hid (L2.out.trans (hl.mono L2.out.size))
            clear hw3 hl x0 x1 x2 x3 x4 x5 y0 y1 y2 y3 y4 y5 q KP KR
            go_wp2
            go_roundw
            case rel => exact ⟨j + 1, by go_num, Or.inr (by omega), HN.out, L3.out⟩
            case measure => simp [intOf]; omega
          · have HF := Lib.hid (dec_false (alln_not hj1 (fun h => HP2.out.1 h ⟨hk.1, hk.2, ht⟩)))
            have t0 : (p.ttl != r.ttl) = true := by simpa using ht
            clear hk HP2 ht
            go_wp2_with fail
            refine wp_region_quiet_below (by assumption) (by kernel_rfl) ?_
            repeat (quiet_step (first | (go_at_call 70; with_reducible exact in_class KP.out) | (go_at_call 70; with_reducible exact in_class KR.out)))
            refine wpQuiet_nil ?_
            intro w3 hw3
            have hl := of_class hw3
            have L3 := Lib.hid (L2.out.trans (hl.mono L2.out.size))
            clear hw3 hl x0 x1 x2 x3 x4 x5 y0 y1 y2 y3 y4 y5 q KP KR
            go_wp2
            go_ret
            exact ⟨congrArg (fun b => Ending.returned (Value.bool b)) HF.out.symm, L3.out⟩
    · have HF : Hid (dec (Alln l.length (Po l)) = true) := dec_true (fun i hi => HE.out i (by rw [HS.out.1] at hi; omega))
      have i1 : ¬ (j : Int) + 1 < (n : Int) := by omega
      go_wp2
      go_ret
      exact ⟨congrArg (fun b => Ending.returned (Value.bool b)) HF.out.symm, HL.out⟩

end Go.Proofs.YtkpcanigdppegaaDoor.OrdI

/- A record that a call gives back lies in a box of its own, made first and filled at the return: what the box reads as, and what the result is. -/
namespace Go.Proofs.YtkpcanigdppegaaDoor.ResR
open Go.RowKit Go.Proofs.YtkpcanigdppegaaDoor.Mem Go.Proofs.YtkpcanigdppegaaDoor.MemR Go.Proofs.YtkpcanigdppegaaDoor.BoxR

/-- The box g filled with the record r. -/
def fil (w : World) (g : Nat) (r : Rec) : World :=
  (((((w.setCell ⟨g, 0, none⟩ (.string r.name)).setCell ⟨g, 1, none⟩ (.int .i64 r.ty)).setCell ⟨g, 2, none⟩ (.int .i64 r.ttl)).setCell ⟨g, 3, none⟩ (.int .i64 r.n)).setCell ⟨g, 4, none⟩ (.string r.host)).setCell ⟨g, 5, none⟩ (.string r.text)
section
variable {w w1 : World} {g B : Nat} {t : TypeId} {r r0 : Rec}
theorem fil_bk (h : Bk w g t (rc r0)) (r : Rec) : Bk (fil w g r) g t (rc r) :=
  (((((h.set 0 (.string r.name)).set 1 (.int .i64 r.ty)).set 2 (.int .i64 r.ttl)).set 3 (.int .i64 r.n)).set 4 (.string r.host)).set 5 (.string r.text)
theorem fil_below (h : Below B w w1) (hg : B ≤ g) (r : Rec) : Below B w (fil w1 g r) :=
  (((((h.setCell (p := ⟨g, 0, none⟩) hg (.string r.name)).setCell (p := ⟨g, 1, none⟩) hg (.int .i64 r.ty)).setCell (p := ⟨g, 2, none⟩) hg (.int .i64 r.ttl)).setCell (p := ⟨g, 3, none⟩) hg (.int .i64 r.n)).setCell (p := ⟨g, 4, none⟩) hg (.string r.host)).setCell (p := ⟨g, 5, none⟩) hg (.string r.text)
theorem fil_other {k : Nat} {cs : List Value} (h : Bk w k t cs) (hk : k ≠ g) (r : Rec) : Bk (fil w g r) k t cs :=
  (((((h.other (p := ⟨g, 0, none⟩) hk (.string r.name)).other (p := ⟨g, 1, none⟩) hk (.int .i64 r.ty)).other (p := ⟨g, 2, none⟩) hk (.int .i64 r.ttl)).other (p := ⟨g, 3, none⟩) hk (.int .i64 r.n)).other (p := ⟨g, 4, none⟩) hk (.string r.host)).other (p := ⟨g, 5, none⟩) hk (.string r.text)
theorem fil_size : (fil w g r).heap.size = w.heap.size := by simp [fil, World.setCell]
end
theorem results_cell {fn : Func} {p : Tmp} {ty : TypeId} (h : fn.results = #[.cell p ty]) (tmps : Array Value) (P : Program) (w : World) :
    (results fn tmps).run P w = ((asAddr (tmps.getD p undef)).run P w).andThen fun a w₁ => (loadVar ty a).run P w₁ := by
  simp only [results, h]
  simp [Sem.run_bind, Result.andThen]
theorem results_cell_tmp2 {fn : Func} {p u v : Tmp} {ty : TypeId} (h : fn.results = #[.cell p ty, .tmp u, .tmp v]) (tmps : Array Value) (P : Program) (w : World) :
    (results fn tmps).run P w = ((asAddr (tmps.getD p undef)).run P w).andThen fun a w₁ => ((loadVar ty a).run P w₁).andThen fun x w₂ => .ok (.tuple #[x, tmps.getD u undef, tmps.getD v undef]) w₂ := by
  simp only [results, h]
  simp [Sem.run_bind, Result.andThen]
theorem load_rec {w : World} {g : Nat} {t : TypeId} {r : Rec} (h : Bk w g t (rc r)) : (loadVar 39 ⟨g, 0, none⟩).run Tryd.prog w = .ok (.agg #[.string r.name, .int .i64 r.ty, .int .i64 r.ttl, .int .i64 r.n, .string r.host, .string r.text]) w := by
  obtain ⟨c0, c1, c2, c3, c4, c5⟩ := bx_of h
  simp [go_sem, c0, c1, c2, c3, c4, c5]
theorem as_addr (a : Addr) (P : Program) (w : World) : (asAddr (.pointer (some a))).run P w = .ok a w := rfl
theorem res1 {fn : Func} {p : Tmp} {w : World} {g : Nat} {t : TypeId} {r : Rec} {tmps : Array Value} (hf : fn.results = #[.cell p 39]) (h : Bk w g t (rc r)) (h4 : tmps.getD p undef = .pointer (some ⟨g, 0, none⟩)) :
    (results fn tmps).run Tryd.prog w = .ok (.agg #[.string r.name, .int .i64 r.ty, .int .i64 r.ttl, .int .i64 r.n, .string r.host, .string r.text]) w := by
  rw [results_cell hf, h4, as_addr]
  simp only [Result.andThen, load_rec h]
theorem res2 {fn : Func} {p u : Tmp} {w : World} {g : Nat} {t : TypeId} {r : Rec} {x : Value} {tmps : Array Value} (hf : fn.results = #[.cell p 39, .tmp u]) (h : Bk w g t (rc r)) (h4 : tmps.getD p undef = .pointer (some ⟨g, 0, none⟩)) (h5 : tmps.getD u undef = x) :
    (results fn tmps).run Tryd.prog w = .ok (.tuple #[.agg #[.string r.name, .int .i64 r.ty, .int .i64 r.ttl, .int .i64 r.n, .string r.host, .string r.text], x]) w := by
  rw [results_cell_tmp hf, h4, h5, as_addr]
  simp only [Result.andThen, load_rec h]
theorem res3 {fn : Func} {p u v : Tmp} {w : World} {g : Nat} {t : TypeId} {r : Rec} {x y : Value} {tmps : Array Value} (hf : fn.results = #[.cell p 39, .tmp u, .tmp v]) (h : Bk w g t (rc r)) (h4 : tmps.getD p undef = .pointer (some ⟨g, 0, none⟩)) (h5 : tmps.getD u undef = x) (h6 : tmps.getD v undef = y) :
    (results fn tmps).run Tryd.prog w = .ok (.tuple #[.agg #[.string r.name, .int .i64 r.ty, .int .i64 r.ttl, .int .i64 r.n, .string r.host, .string r.text], x, y]) w := by
  rw [results_cell_tmp2 hf, h4, h5, h6, as_addr]
  simp only [Result.andThen, load_rec h]
end Go.Proofs.YtkpcanigdppegaaDoor.ResR

/- What StartOf does in the model: the first record of the start's type, or a record with nothing in it. Condition: fewer than 400000001 records. -/
namespace Go.Proofs.YtkpcanigdppegaaDoor.StartS
open Go.RowKit Go.Proofs.YtkpcanigdppegaaDoor.Mem Go.Proofs.YtkpcanigdppegaaDoor.MemR Go.Proofs.YtkpcanigdppegaaDoor.SetMath Go.Proofs.YtkpcanigdppegaaDoor.ZoneMath Go.Proofs.YtkpcanigdppegaaDoor.MemZ Go.Proofs.YtkpcanigdppegaaDoor.ResR

theorem box2 {w : World} {a : Obj} {cs : Array Value} {t : TypeId} : Bk ((w.alloc a).alloc (.cells cs t)) (w.heap.size + 1) t cs.toList := by
  have := heap_alloc_new (w.alloc a) (.cells cs t)
  rw [show (w.alloc a).heap.size = w.heap.size + 1 by simp] at this
  exact this

set_option maxRecDepth 100000 in
set_option maxHeartbeats 8000000 in
theorem spec (s : ByteArray) (b0 o0 n c : Nat) (l : List Rec) (w : World) (hs : Sr w w.heap.size (some ⟨b0, o0, none⟩) n l) (hn : n ≤ 400000000) :
    Calls Tryd.prog 15 #[.agg #[.string s, .slice (some ⟨b0, o0, none⟩) n c]] w fun e w' => e = .returned (.agg #[.string ((st l)).name, .int .i64 ((st l)).ty, .int .i64 ((st l)).ttl, .int .i64 ((st l)).n, .string ((st l)).host, .string ((st l)).text]) ∧ Below w.heap.size w w' := by
  have Z0 := Lib.hid ((zx_new w 26 s (.slice (some ⟨b0, o0, none⟩) n c)).alloc (.cells #[.string ⟨#[]⟩, .int .i64 0, .int .i64 0, .int .i64 0, .string ⟨#[]⟩, .string ⟨#[]⟩] 39))
  have R0 := Lib.hid (box2 (w := w) (a := .cells #[.string s, .slice (some ⟨b0, o0, none⟩) n c] 26) (cs := #[.string ⟨#[]⟩, .int .i64 0, .int .i64 0, .int .i64 0, .string ⟨#[]⟩, .string ⟨#[]⟩]) (t := 39))
  have L0 := Lib.hid (((Below.refl w.heap.size w).alloc (Nat.le_refl _) (.cells #[.string s, .slice (some ⟨b0, o0, none⟩) n c] 26)).alloc (by simp) (.cells #[.string ⟨#[]⟩, .int .i64 0, .int .i64 0, .int .i64 0, .string ⟨#[]⟩, .string ⟨#[]⟩] 39))
  have HS := Lib.hid hs
  clear hs
  go_enter Tryd.func15, Tryd.ntmps15
  go_wp2
  generalize (w.alloc (.cells #[.string s, .slice (some ⟨b0, o0, none⟩) n c] 26)).alloc (.cells #[.string ⟨#[]⟩, .int .i64 0, .int .i64 0, .int .i64 0, .string ⟨#[]⟩, .string ⟨#[]⟩] 39) = w0 at *
  go_loopw [3] (fun i wr => ∃ k : Nat, k ≤ n ∧ i = .int .i64 k ∧ wr = w0 ∧ Hid (∀ r ∈ l.take k, r.ty ≠ 6)) (fun i _ => n - (intOf i).toNat)
  case atStart => exact ⟨0, Nat.zero_le _, rfl, rfl, fun r hr => by simp at hr⟩
  case round =>
    obtain ⟨k, hk, rfl, rfl, HE⟩ := hrel
    obtain ⟨z0, z1⟩ := Z0.out
    have r0 : wr.cell? ⟨w.heap.size + 1, 0, none⟩ = some (.string ⟨#[]⟩) := R0.out.cell 0
    have r1 : wr.cell? ⟨w.heap.size + 1, 1, none⟩ = some (.int .i64 0) := R0.out.cell 1
    have r2 : wr.cell? ⟨w.heap.size + 1, 2, none⟩ = some (.int .i64 0) := R0.out.cell 2
    have r3 : wr.cell? ⟨w.heap.size + 1, 3, none⟩ = some (.int .i64 0) := R0.out.cell 3
    have r4 : wr.cell? ⟨w.heap.size + 1, 4, none⟩ = some (.string ⟨#[]⟩) := R0.out.cell 4
    have r5 : wr.cell? ⟨w.heap.size + 1, 5, none⟩ = some (.string ⟨#[]⟩) := R0.out.cell 5
    have q0 := R0.out.free 0
    have q1 := R0.out.free 1
    have q2 := R0.out.free 2
    have q3 := R0.out.free 3
    have q4 := R0.out.free 4
    have q5 := R0.out.free 5
    by_cases hlt : k < n
    · obtain ⟨b, off, hA, hbB, hcs⟩ := HS.out.2 (by omega)
      obtain ⟨rfl, rfl⟩ : b0 = b ∧ o0 = off := by simp at hA; exact hA
      clear hA
      have hkl : k < l.length := by rw [HS.out.1]; exact hlt
      obtain ⟨e0, e1, e2, e3, e4, e5⟩ := (hcs k hkl).below L0.out hbB
      clear hcs
      have HH := Lib.hid (fun e => st_hit l k hkl e HE.out)
      have HN := Lib.hid (fun e => st_next l k hkl e HE.out)
      generalize l[k] = r at *
      by_cases hty : r.ty = 6
      · have HF := Lib.hid (HH.out hty)
        have t0 : (r.ty == 6) = true := by simpa using hty
        clear hty HH HN
        have F := Lib.hid (fil_bk (r0 := zr) R0.out r)
        have E := Lib.hid (fil_below L0.out (g := w.heap.size + 1) (by omega) r)
        go_wp2
        exact bodyPost_ret (v := .agg #[.string r.name, .int .i64 r.ty, .int .i64 r.ttl, .int .i64 r.n, .string r.host, .string r.text]) (res1 rfl F.out rfl) rfl ⟨by rw [HF.out], E.out⟩
      · have HF := Lib.hid (HN.out hty)
        have t0 : (r.ty == 6) = false := by simpa using hty
        clear hty HH HN
        go_wp2
        go_roundw
        case rel => exact ⟨k + 1, by omega, by go_num, trivial, HF.out⟩
        case measure => simp [intOf]; omega
    · obtain rfl : n = k := by omega
      have HF := Lib.hid (st_none l (by rw [take_all HS.out.1] at HE; exact HE.out))
      have F := Lib.hid (fil_bk (r0 := zr) R0.out zr)
      have E := Lib.hid (fil_below L0.out (g := w.heap.size + 1) (by omega) zr)
      go_wp2
      exact bodyPost_ret (v := .agg #[.string zr.name, .int .i64 zr.ty, .int .i64 zr.ttl, .int .i64 zr.n, .string zr.host, .string zr.text]) (res1 rfl F.out rfl) rfl ⟨by rw [HF.out], E.out⟩
end Go.Proofs.YtkpcanigdppegaaDoor.StartS

/- What StartOf does in the program (a range over the zone's records): the first record of the start's type, or a record with nothing in it. Condition: fewer than 400000001 records. -/
namespace Go.Proofs.YtkpcanigdppegaaDoor.StartOfI
open Go.RowKit Go.Proofs.YtkpcanigdppegaaDoor.Mem Go.Proofs.YtkpcanigdppegaaDoor.MemR Go.Proofs.YtkpcanigdppegaaDoor.SetMath Go.Proofs.YtkpcanigdppegaaDoor.ZoneMath Go.Proofs.YtkpcanigdppegaaDoor.MemZ Go.Proofs.YtkpcanigdppegaaDoor.ResR Go.Proofs.YtkpcanigdppegaaDoor.StartS

set_option maxRecDepth 100000 in
set_option maxHeartbeats 8000000 in
theorem impl (s : ByteArray) (b0 o0 n c : Nat) (l : List Rec) (w : World) (hs : Sr w w.heap.size (some ⟨b0, o0, none⟩) n l) (hn : n ≤ 400000000) (_ : s.size ≤ 400000000) (_ : ∀ r ∈ l, r.name.size ≤ 400000000) :
    Calls Tryd.prog 14 #[.agg #[.string s, .slice (some ⟨b0, o0, none⟩) n c]] w fun e w' => e = .returned (.agg #[.string ((st l)).name, .int .i64 ((st l)).ty, .int .i64 ((st l)).ttl, .int .i64 ((st l)).n, .string ((st l)).host, .string ((st l)).text]) ∧ Below w.heap.size w w' := by
  have Z0 := Lib.hid ((zx_new w 26 s (.slice (some ⟨b0, o0, none⟩) n c)).alloc (.cells #[.string ⟨#[]⟩, .int .i64 0, .int .i64 0, .int .i64 0, .string ⟨#[]⟩, .string ⟨#[]⟩] 39))
  have R0 := Lib.hid (box2 (w := w) (a := .cells #[.string s, .slice (some ⟨b0, o0, none⟩) n c] 26) (cs := #[.string ⟨#[]⟩, .int .i64 0, .int .i64 0, .int .i64 0, .string ⟨#[]⟩, .string ⟨#[]⟩]) (t := 39))
  have L0 := Lib.hid (((Below.refl w.heap.size w).alloc (Nat.le_refl _) (.cells #[.string s, .slice (some ⟨b0, o0, none⟩) n c] 26)).alloc (by simp) (.cells #[.string ⟨#[]⟩, .int .i64 0, .int .i64 0, .int .i64 0, .string ⟨#[]⟩, .string ⟨#[]⟩] 39))
  have HS := Lib.hid hs
  clear hs
  go_enter Tryd.func14, Tryd.ntmps14
  go_wp2
  generalize (w.alloc (.cells #[.string s, .slice (some ⟨b0, o0, none⟩) n c] 26)).alloc (.cells #[.string ⟨#[]⟩, .int .i64 0, .int .i64 0, .int .i64 0, .string ⟨#[]⟩, .string ⟨#[]⟩] 39) = w0 at *
  go_loopw [8] (fun i wr => ∃ k : Nat, k ≤ n ∧ i = .int .i64 k ∧ Hid (Bk wr (w.heap.size + 1) 39 (rc zr)) ∧ Hid (Below w.heap.size w wr) ∧ Hid (∀ r ∈ l.take k, r.ty ≠ 6)) (fun i _ => n - (intOf i).toNat)
  case atStart => exact ⟨0, Nat.zero_le _, rfl, R0.out, L0.out, fun r hr => by simp at hr⟩
  case round =>
    clear Z0 R0 L0
    obtain ⟨k, hk, rfl, HR, HL, HE⟩ := hrel
    by_cases hlt : k < n
    · obtain ⟨b, off, hA, hbB, hcs⟩ := HS.out.2 (by omega)
      obtain ⟨rfl, rfl⟩ : b0 = b ∧ o0 = off := by simp at hA; exact hA
      clear hA
      have hkl : k < l.length := by rw [HS.out.1]; exact hlt
      obtain ⟨e0, e1, e2, e3, e4, e5⟩ := (hcs k hkl).below HL.out hbB
      clear hcs
      have HH := Lib.hid (fun e => st_hit l k hkl e HE.out)
      have HN := Lib.hid (fun e => st_next l k hkl e HE.out)
      generalize l[k] = r at *
      have R1 := Lib.hid (HR.out.alloc (.cells #[.string r.name, .int .i64 r.ty, .int .i64 r.ttl, .int .i64 r.n, .string r.host, .string r.text] 39))
      have L1 := Lib.hid (HL.out.alloc HL.out.size (.cells #[.string r.name, .int .i64 r.ty, .int .i64 r.ttl, .int .i64 r.n, .string r.host, .string r.text] 39))
      clear HR HL
      by_cases hty : r.ty = 6
      · have HF := Lib.hid (HH.out hty)
        have t0 : (r.ty == 6) = true := by simpa using hty
        clear hty HH HN
        have r0 : (wr.alloc (.cells #[.string r.name, .int .i64 r.ty, .int .i64 r.ttl, .int .i64 r.n, .string r.host, .string r.text] 39)).cell? ⟨w.heap.size + 1, 0, none⟩ = some (.string ⟨#[]⟩) := R1.out.cell 0
        have r1 : (wr.alloc (.cells #[.string r.name, .int .i64 r.ty, .int .i64 r.ttl, .int .i64 r.n, .string r.host, .string r.text] 39)).cell? ⟨w.heap.size + 1, 1, none⟩ = some (.int .i64 0) := R1.out.cell 1
        have r2 : (wr.alloc (.cells #[.string r.name, .int .i64 r.ty, .int .i64 r.ttl, .int .i64 r.n, .string r.host, .string r.text] 39)).cell? ⟨w.heap.size + 1, 2, none⟩ = some (.int .i64 0) := R1.out.cell 2
        have r3 : (wr.alloc (.cells #[.string r.name, .int .i64 r.ty, .int .i64 r.ttl, .int .i64 r.n, .string r.host, .string r.text] 39)).cell? ⟨w.heap.size + 1, 3, none⟩ = some (.int .i64 0) := R1.out.cell 3
        have r4 : (wr.alloc (.cells #[.string r.name, .int .i64 r.ty, .int .i64 r.ttl, .int .i64 r.n, .string r.host, .string r.text] 39)).cell? ⟨w.heap.size + 1, 4, none⟩ = some (.string ⟨#[]⟩) := R1.out.cell 4
        have r5 : (wr.alloc (.cells #[.string r.name, .int .i64 r.ty, .int .i64 r.ttl, .int .i64 r.n, .string r.host, .string r.text] 39)).cell? ⟨w.heap.size + 1, 5, none⟩ = some (.string ⟨#[]⟩) := R1.out.cell 5
        have q0 := R1.out.free 0
        have q1 := R1.out.free 1
        have q2 := R1.out.free 2
        have q3 := R1.out.free 3
        have q4 := R1.out.free 4
        have q5 := R1.out.free 5
        have F := Lib.hid (fil_bk (r0 := zr) R1.out r)
        have E := Lib.hid (fil_below L1.out (g := w.heap.size + 1) (by omega) r)
        go_wp2
        exact bodyPost_ret (v := .agg #[.string r.name, .int .i64 r.ty, .int .i64 r.ttl, .int .i64 r.n, .string r.host, .string r.text]) (res1 rfl F.out rfl) rfl ⟨by rw [HF.out], E.out⟩
      · have HF := Lib.hid (HN.out hty)
        have t0 : (r.ty == 6) = false := by simpa using hty
        clear hty HH HN
        go_wp2
        go_roundw
        case rel => exact ⟨k + 1, by omega, by go_num, R1.out, L1.out, HF.out⟩
        case measure => simp [intOf]; omega
    · obtain rfl : n = k := by omega
      have HF := Lib.hid (st_none l (by rw [take_all HS.out.1] at HE; exact HE.out))
      have r0 : wr.cell? ⟨w.heap.size + 1, 0, none⟩ = some (.string ⟨#[]⟩) := HR.out.cell 0
      have r1 : wr.cell? ⟨w.heap.size + 1, 1, none⟩ = some (.int .i64 0) := HR.out.cell 1
      have r2 : wr.cell? ⟨w.heap.size + 1, 2, none⟩ = some (.int .i64 0) := HR.out.cell 2
      have r3 : wr.cell? ⟨w.heap.size + 1, 3, none⟩ = some (.int .i64 0) := HR.out.cell 3
      have r4 : wr.cell? ⟨w.heap.size + 1, 4, none⟩ = some (.string ⟨#[]⟩) := HR.out.cell 4
      have r5 : wr.cell? ⟨w.heap.size + 1, 5, none⟩ = some (.string ⟨#[]⟩) := HR.out.cell 5
      have q0 := HR.out.free 0
      have q1 := HR.out.free 1
      have q2 := HR.out.free 2
      have q3 := HR.out.free 3
      have q4 := HR.out.free 4
      have q5 := HR.out.free 5
      have F := Lib.hid (fil_bk (r0 := zr) HR.out zr)
      have E := Lib.hid (fil_below HL.out (g := w.heap.size + 1) (by omega) zr)
      go_wp2
      exact bodyPost_ret (v := .agg #[.string zr.name, .int .i64 zr.ty, .int .i64 zr.ttl, .int .i64 zr.n, .string zr.host, .string zr.text]) (res1 rfl F.out rfl) rfl ⟨by rw [HF.out], E.out⟩
end Go.Proofs.YtkpcanigdppegaaDoor.StartOfI

/- 'm[k] = append(m[k], x)' as the model has it: the entry is found or laid, with its stamp; then its value is stored at the stamp. -/
namespace Go.Proofs.YtkpcanigdppegaaDoor.MapE
open Go.RowKit Go.Proofs.YtkpcanigdppegaaDoor.Mem Go.Proofs.YtkpcanigdppegaaDoor.MapK
open Go.ChangeMaps (setBlock heap_setBlock_same heap_setBlock_other)

/-- As Mp; and the j-th entry bears the stamp st. -/
def Ms (w : World) (b : Nat) (l : List (Value × Value)) (j st : Nat) : Prop :=
  ∃ es clock, w.heap[b]? = some (.map es clock) ∧ es.toList.map (fun e => (e.key, e.val)) = l ∧ (∀ e ∈ es.toList, e.born < clock) ∧ (es.toList.map (·.born)).Nodup ∧ ∃ e, es.toList[j]? = some e ∧ e.born = st
section
variable {P : Program} {w w' : World} {b : Nat} {l : List (Value × Value)} {k e t : TypeId} {S : Value → Prop} {j st : Nat}

theorem Ms.lt (h : Ms w b l j st) : b < w.heap.size := by
  obtain ⟨es, clock, hb, _⟩ := h
  exact (Array.getElem?_eq_some_iff.1 hb).1

theorem Ms.kept (h : Ms w b l j st) (hk : w'.heap[b]? = w.heap[b]?) : Ms w' b l j st := by
  obtain ⟨es, clock, hb, h1⟩ := h
  exact ⟨es, clock, hk.trans hb, h1⟩

theorem Ms.grown {row : Option Nat} (h : Ms w b l j st) (hg : w.grownBy w' row) (hne : some b ≠ row) : Ms w' b l j st := h.kept (hg.block b h.lt hne)

theorem Ms.alloc (h : Ms w b l j st) (o : Obj) : Ms (w.alloc o) b l j st := h.grown (World.grownBy_alloc w o none) (by simp)

/-- The entry is not there: it is laid, with the zero value. -/
theorem entry_new (h : Mp w b l) (K : MapK.KeyT P k S) (ht : P.underlying t = some (.map k e)) {z : Value} (hz : (zeroValue e).run P w = .ok z w) (hS : ∀ p ∈ l, S p.1) {x : Value} (hx : S x) (hno : ∀ p ∈ l, p.1 ≠ x) :
    ∃ w' st, (Instr.mapEntry t (.map (some b)) x).run P w = .ok (.tuple #[z, .int .i64 (st : Nat)]) w' ∧ Ms w' b (l ++ [(x, z)]) l.length st ∧ w.grownBy w' (some b) ∧ w'.heap.size = w.heap.size := by
  obtain ⟨es, clock, hb, hl, hborn, hnd⟩ := h
  rcases K.find w hx es.toList (mem_key hl hS) with ⟨hrun, _⟩ | ⟨j, e0, _, hj, hk⟩
  · refine ⟨setBlock w b (.map (es.push ⟨x, z, clock⟩) (clock + 1)), clock, ?_, ⟨_, _, heap_setBlock_same hb _, ?_, ?_, ?_, ⟨x, z, clock⟩, ?_, rfl⟩, grown_block hb _, by simp [setBlock]⟩
    · simp [Instr.mapEntry, run_underlying ht, MapKept.run_getObj_map hb, K.check w false hx, hrun, hz, MapKept.run_setObj_map _ hb, Result.andThen, setBlock, goInt]
    · rw [Array.toList_push, List.map_append, hl]; rfl
    · intro e' he'
      rw [Array.toList_push, List.mem_append] at he'
      rcases he' with he' | he'
      · have := hborn e' he'; omega
      · obtain rfl := List.mem_singleton.1 he'; exact Nat.lt_succ_self _
    · rw [Array.toList_push, List.map_append, List.nodup_append]
      refine ⟨hnd, by simp, fun a ha c hc => ?_⟩
      obtain ⟨e', he', rfl⟩ := List.mem_map.1 ha
      have h1 := hborn e' he'
      simp at hc
      omega
    · rw [Array.toList_push, ← hl, List.length_map, List.getElem?_append_right (Nat.le_refl _), Nat.sub_self]
      rfl
  · exact absurd hk (hno (e0.key, e0.val) (hl ▸ List.mem_map.2 ⟨e0, List.mem_of_getElem? hj, rfl⟩))

/-- The entry is there. -/
theorem entry_old (h : Mp w b l) (K : MapK.KeyT P k S) (ht : P.underlying t = some (.map k e)) (hS : ∀ p ∈ l, S p.1) (hd : (l.map Prod.fst).Nodup) {x u : Value} (hx : S x) {j : Nat} (hin : l[j]? = some (x, u)) :
    ∃ w' st, (Instr.mapEntry t (.map (some b)) x).run P w = .ok (.tuple #[u, .int .i64 (st : Nat)]) w' ∧ Ms w' b l j st ∧ w.grownBy w' (some b) ∧ w'.heap.size = w.heap.size := by
  obtain ⟨es, clock, hb, hl, hborn, hnd⟩ := h
  rcases K.find w hx es.toList (mem_key hl hS) with ⟨_, hno⟩ | ⟨i, e0, hrun, hi, hk⟩
  · have hm := List.mem_of_getElem? hin
    rw [← hl] at hm
    obtain ⟨e0, he, hq⟩ := List.mem_map.1 hm
    exact absurd (congrArg Prod.fst hq) (hno e0 he)
  · have hli : l[i]? = some (e0.key, e0.val) := by rw [← hl, List.getElem?_map, hi]; rfl
    have hij : i = j := by
      rw [hk] at hli
      exact key_idx hd hli hin
    subst hij
    have hu : e0.val = u := by rw [hli] at hin; exact congrArg Prod.snd (Option.some.inj hin)
    have hget : es[i]? = some e0 := by rw [← Array.getElem?_toList]; exact hi
    have hmod : (es.modify i fun e => { e with key := x }) = es := by
      refine Array.toList_inj.1 ?_
      rw [Array.toList_modify]
      refine List.ext_getElem? fun n => ?_
      rw [List.getElem?_modify]
      by_cases hn : i = n
      · subst hn
        rw [hi]
        simp [← hk]
      · simp [hn]
    refine ⟨setBlock w b (.map (es.modify i fun e => { e with key := x }) clock), e0.born, ?_, ⟨es, clock, by rw [heap_setBlock_same hb _, hmod], hl, hborn, hnd, e0, hi, rfl⟩, grown_block hb _, by simp [setBlock]⟩
    have hst := K.stays w hx
    have hck := K.check w false hx
    subst hk
    subst hu
    simp [Instr.mapEntry, run_underlying ht, MapKept.run_getObj_map hb, hck, hrun, hget, hst, MapKept.run_setObj_map _ hb, Result.andThen, setBlock, goInt]

/-- The value is stored at the stamp. -/
theorem Ms.store (h : Ms w b l j st) (t : TypeId) {x u : Value} (hin : l[j]? = some (x, u)) (v : Value) :
    ∃ w', (Instr.entryStore t (.map (some b)) (.int .i64 (st : Nat)) v).run P w = .ok () w' ∧ Mp w' b (l.set j (x, v)) ∧ w.grownBy w' (some b) ∧ w'.heap.size = w.heap.size := by
  obtain ⟨es, clock, hb, hl, hborn, hnd, e0, hj, rfl⟩ := h
  have hx : e0.key = x := by
    rw [← hl, List.getElem?_map, hj] at hin
    exact congrArg Prod.fst (Option.some.inj hin)
  have hfind : es.findIdx? (fun e => (e.born : Int) == (e0.born : Int)) = some j := by
    obtain ⟨hlt, he⟩ := List.getElem?_eq_some_iff.1 hj
    rw [Array.findIdx?_eq_some_iff_getElem]
    refine ⟨by simpa using hlt, by rw [show es[j]'(by simpa using hlt) = e0 from he]; simp, fun i hi hp => ?_⟩
    have hil : i < es.toList.length := by omega
    have h1 : (es.toList.map (·.born))[i]? = some e0.born := by
      rw [List.getElem?_map, List.getElem?_eq_getElem hil]
      have h3 : es[i].born = e0.born := by simp at hp; omega
      have h4 : es.toList[i].born = e0.born := h3
      rw [Option.map_some, h4]
    have h2 : (es.toList.map (·.born))[j]? = some e0.born := by rw [List.getElem?_map, hj]; rfl
    have := nodup_inj hnd h1 h2
    omega
  refine ⟨setBlock w b (.map (es.modify j fun e => { e with val := v }) clock), ?_, ⟨_, _, heap_setBlock_same hb _, ?_, ?_, ?_⟩, grown_block hb _, by simp [setBlock]⟩
  · simp [Instr.entryStore, MapKept.run_getObj_map hb, asInt, asIntOf, hfind, MapKept.run_setObj_map _ hb, Result.andThen, setBlock]
  · rw [Array.toList_modify, ← hl]
    refine List.ext_getElem? fun n => ?_
    rw [List.getElem?_map, List.getElem?_modify, List.getElem?_set]
    by_cases hn : j = n
    · subst hn
      have : j < es.toList.length := (List.getElem?_eq_some_iff.1 hj).1
      rw [Array.length_toList] at this
      rw [hj]
      simp [this, hx]
    · simp [hn]
  · intro e' he'
    rw [Array.toList_modify] at he'
    obtain ⟨n, hn⟩ := List.getElem?_of_mem he'
    rw [List.getElem?_modify] at hn
    obtain ⟨e1, h1, rfl⟩ := Option.map_eq_some_iff.1 hn
    have := hborn e1 (List.mem_of_getElem? h1)
    split <;> exact this
  · have : (es.modify j fun e => { e with val := v }).toList.map (·.born) = es.toList.map (·.born) := by
      rw [Array.toList_modify]
      refine List.ext_getElem? fun n => ?_
      rw [List.getElem?_map, List.getElem?_map, List.getElem?_modify]
      cases es.toList[n]? <;> simp
      split <;> rfl
    rw [this]
    exact hnd

/-- The look-up of an entry at the operation. -/
theorem wp_entry {ops : Array Oper} {rest : List Oper} {o : Oper} {a : Act} {Q : Exit → Act → World → Prop}
    (hg : o.guard = none) (m x : Operand) (hop : o.op = Op.mapEntry t m x) (key u : Value) (hm : a.eval m = .map (some b)) (hx : a.eval x = key) (l' : List (Value × Value)) (j' : Nat)
    (hrun : ∃ w' st, (Instr.mapEntry t (.map (some b)) key).run P w = .ok (.tuple #[u, .int .i64 (st : Nat)]) w' ∧ Ms w' b l' j' st ∧ w.grownBy w' (some b) ∧ w'.heap.size = w.heap.size)
    (hK : ∀ w' (st : Nat), Ms w' b l' j' st → w.grownBy w' (some b) → w'.heap.size = w.heap.size → wpList P ops Q rest (a.put o.dst (.tuple #[u, .int .i64 (st : Nat)])) w') : wpList P ops Q (o :: rest) a w := by
  obtain ⟨w', s0, h1, h2, h3, h4⟩ := hrun
  refine wpList_plain hg fun K' hK' => ?_
  unfold Oper.wp
  simp [execOp, hop, hm, hx, h1, Result.andThen]
  exact hK' _ _ (hK w' s0 h2 h3 h4)

/-- The store at a stamp at the operation. -/
theorem wp_stamp {ops : Array Oper} {rest : List Oper} {o : Oper} {a : Act} {Q : Exit → Act → World → Prop}
    (hg : o.guard = none) (m s v : Operand) (hop : o.op = Op.entryStore t m s v) (u : Value) (hm : a.eval m = .map (some b)) (hs : a.eval s = .int .i64 (st : Nat)) (hv : a.eval v = u)
    (l' : List (Value × Value)) (hrun : ∃ w', (Instr.entryStore t (.map (some b)) (.int .i64 (st : Nat)) u).run P w = .ok () w' ∧ Mp w' b l' ∧ w.grownBy w' (some b) ∧ w'.heap.size = w.heap.size)
    (hK : ∀ w', Mp w' b l' → w.grownBy w' (some b) → w'.heap.size = w.heap.size → wpList P ops Q rest (a.put o.dst undef) w') : wpList P ops Q (o :: rest) a w := by
  obtain ⟨w', h1, h2, h3, h4⟩ := hrun
  refine wpList_plain hg fun K' hK' => ?_
  unfold Oper.wp
  simp [execOp, hop, hm, hs, hv, h1, Result.andThen]
  exact hK' _ _ (hK w' h2 h3 h4)
end
end Go.Proofs.YtkpcanigdppegaaDoor.MapE

/- A new slice of records that a call gives back, and laws on append of records. -/
namespace Go.Proofs.YtkpcanigdppegaaDoor.AppR
open Go.RowKit Go.Proofs.YtkpcanigdppegaaDoor.Mem Go.Proofs.YtkpcanigdppegaaDoor.MemR

theorem owns_new (w : World) : (w.alloc (.cells #[] 39)).ownsRow w.heap.size 39 6 (.slice (some ⟨w.heap.size, 0, none⟩) 0 0) 0 [] :=
  World.ownsRow_made w #[] 0 (Nat.le_refl _) (Nat.zero_le _) (by simp)
theorem one_fl (l : List Rec) : ∀ u ∈ fl l, u.oneCell' = true := by
  intro u hu
  obtain ⟨r, _, hr⟩ := List.mem_flatMap.1 hu
  simp [rc] at hr
  rcases hr with rfl | rfl | rfl | rfl | rfl | rfl <;> rfl
/-- The cells of a slice that reads as records, as the laws on append ask for them. -/
theorem cells_of {w : World} {B b off n : Nat} {l : List Rec} (hs : Sr w B (some ⟨b, off, none⟩) n l) : ∀ j u, (fl l)[j]? = some u → w.cell? ((⟨b, off, none⟩ : Addr).add j) = some u := by
  intro j u hu
  have hj : j < l.length * 6 := by
    have := (List.getElem?_eq_some_iff.1 hu).1
    rwa [fl_len] at this
  obtain ⟨b', off', hA, _, hc⟩ := hs.2 (by have := hs.1; omega)
  simp only [Option.some.injEq, Addr.mk.injEq, and_true] at hA
  obtain ⟨rfl, rfl⟩ := hA
  have hd : j / 6 < l.length := by omega
  have h6 : j % 6 < 6 := by omega
  have e : j = j / 6 * 6 + j % 6 := by omega
  have hg := fl_get l (j / 6) (j % 6) hd h6
  rw [← e, hu] at hg
  obtain ⟨c0, c1, c2, c3, c4, c5⟩ := hc (j / 6) hd
  rw [Addr.add_lit, show off + j = off + j / 6 * 6 + j % 6 by omega, hg]
  generalize j % 6 = c at h6 ⊢
  rcases c with _ | _ | _ | _ | _ | _ | c
  · exact c0
  · exact c1
  · exact c2
  · exact c3
  · exact c4
  · exact c5
  · omega
/-- append of a slice of records onto a row of the call's own. -/
theorem append_recs {w : World} {ops : Array Oper} {rest : List Oper} {o : Oper} {a : Act} {Q : Exit → Act → World → Prop} (hgd : o.guard = none) (s x : Operand)
    (ho : o.op = .call { callee := .builtin .append, args := #[s, x], argTypes := #[24, 24] })
    (base g n cap : Nat) (L : List Rec) (hs : a.eval s = .slice (some ⟨g, 0, none⟩) n cap) (hown : w.ownsRow base 39 6 (.slice (some ⟨g, 0, none⟩) n cap) n (fl L))
    (b off m c B : Nat) (l : List Rec) (hx : a.eval x = .slice (some ⟨b, off, none⟩) m c) (hl : Sr w B (some ⟨b, off, none⟩) m l)
    (hn : n ≤ 800000000) (hm : m ≤ 800000000) (hbase : base ≤ w.heap.size)
    (h : ∀ g' cap' w', w'.ownsRow base 39 6 (.slice (some ⟨g', 0, none⟩) (n + m) cap') (n + m) (fl (L ++ l)) → w.grownBy w' (some g) → wpList Tryd.prog ops Q rest (a.put o.dst (.slice (some ⟨g', 0, none⟩) (n + m) cap')) w') : wpList Tryd.prog ops Q (o :: rest) a w := by
  obtain ⟨i0, hi, hz0, hz1, hz2⟩ := info_parts CopyR.info
  exact wpList_append_own w hgd s x 24 ho base 39 i0 _ 6 72 Tryd.underlying24 hi hz0 hz1 hz2 rfl (by decide) _ n (fl L) hs hown ⟨b, off, none⟩ m c (fl l) hx (by rw [fl_len, hl.1]) (cells_of hl) (one_fl l) (by unfold maxLen; omega) (by omega) hbase
    (fun v' w' h1 h2 h3 => by
      rcases h1.2 with ⟨hv, _⟩ | ⟨g', cap', cur, hv, _⟩
      · have := (h3.1 hv).1
        cases this
      · subst hv
        exact h g' cap' w' (by rw [fl_append]; exact h1) h2)
end Go.Proofs.YtkpcanigdppegaaDoor.AppR
