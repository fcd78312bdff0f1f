/- What sameMsg does, put together of its ways. -/
import Derived.Test.YtkfibepejlgniaaGreatDoorMemR
import Derived.Laws.StructEq
import Derived.Deep.QuietTactic
import Derived.BigQuiet
import Derived.Test.YtkfibepejlgniaaGreatDoorResM
/- What SameRecords does in the program and in the model: whether two lists of records are equal in all fields of all records. Condition: fewer than 400000001 records. -/
namespace Go.Proofs.YtkfibepejlgniaaGreatDoor.SameR
open Go.RowKit Go.Proofs.YtkfibepejlgniaaGreatDoor.Mem Go.Proofs.YtkfibepejlgniaaGreatDoor.MemR

/-- Whether two lists of records are equal. A def, so that no step of a walk opens it. -/
noncomputable def sm (l m : List Rec) : Bool := @decide (l = m) (Classical.propDecidable _)
theorem sm_true {l m : List Rec} (h : l = m) : sm l m = true := @decide_eq_true _ (Classical.propDecidable _) h
theorem sm_false {l m : List Rec} (h : l ≠ m) : sm l m = false := @decide_eq_false _ (Classical.propDecidable _) h
theorem bytes_ne {a b : ByteArray} (h : a ≠ b) : (a.toList == b.toList) = false := by
  cases e : (a.toList == b.toList) with
  | false => rfl
  | true =>
    have := eq_of_beq e
    rw [ByteArray.toList_eq, ByteArray.toList_eq] at this
    exact absurd (by cases a; cases b; congr; exact Array.toList_inj.1 this) h
theorem neq_same (r : Rec) (w : World) : Sem.run Tryz.prog (binOp .neq 117 (.agg #[.string r.name, .int .i64 r.ty, .int .i64 r.ttl, .int .i64 r.n, .string r.host, .string r.text]) (.agg #[.string r.name, .int .i64 r.ty, .int .i64 r.ttl, .int .i64 r.n, .string r.host, .string r.text])) w = .ok (.bool false) w := by
  have u3 := Tryz.underlying3
  have a3 := Tryz.isAgg3
  have z3 := Tryz.sizeOf3
  have u9 := Tryz.underlying9
  have a9 := Tryz.isAgg9
  have z9 := Tryz.sizeOf9
  have hS : Tryz.prog.underlying 117 = some (.struct (Tryz.prog.fieldsOf 117)) := by kernel_rfl
  have hp : Tryz.prog.stoodInHeld 117 = false := by kernel_rfl
  rw [run_neq_struct, show (10000 : Nat) = 9999 + 1 from rfl, run_equalIn_agg w 9999 117 _ _ hS hp]
  simp only [Program.fieldsOf, Tryz.underlying117]
  go_simp

theorem neq_diff {r s : Rec} (h : r ≠ s) (w : World) : Sem.run Tryz.prog (binOp .neq 117 (.agg #[.string r.name, .int .i64 r.ty, .int .i64 r.ttl, .int .i64 r.n, .string r.host, .string r.text]) (.agg #[.string s.name, .int .i64 s.ty, .int .i64 s.ttl, .int .i64 s.n, .string s.host, .string s.text])) w = .ok (.bool true) w := by
  have u3 := Tryz.underlying3
  have a3 := Tryz.isAgg3
  have z3 := Tryz.sizeOf3
  have u9 := Tryz.underlying9
  have a9 := Tryz.isAgg9
  have z9 := Tryz.sizeOf9
  have hS : Tryz.prog.underlying 117 = some (.struct (Tryz.prog.fieldsOf 117)) := by kernel_rfl
  have hp : Tryz.prog.stoodInHeld 117 = false := by kernel_rfl
  rw [run_neq_struct, show (10000 : Nat) = 9999 + 1 from rfl, run_equalIn_agg w 9999 117 _ _ hS hp]
  simp only [Program.fieldsOf, Tryz.underlying117]
  obtain ⟨n1, t1, l1, m1, h1, x1⟩ := r
  obtain ⟨n2, t2, l2, m2, h2, x2⟩ := s
  simp only
  by_cases c0 : n1 = n2
  · subst c0
    by_cases c1 : t1 = t2
    · subst c1
      by_cases c2 : l1 = l2
      · subst c2
        by_cases c3 : m1 = m2
        · subst c3
          by_cases c4 : h1 = h2
          · subst c4
            by_cases c5 : x1 = x2
            · subst c5; exact absurd rfl h
            · have k := bytes_ne c5
              go_simp
          · have k := bytes_ne c4
            go_simp
        · go_simp
      · go_simp
    · go_simp
  · have k := bytes_ne c0
    go_simp

theorem grd : Tryz.prog.eqGuardType Tryz.prog.depth 117 = false := by kernel_rfl

theorem take_same {l m : List Rec} {k : Nat} (h : l.take k = m.take k) (h1 : k < l.length) (h2 : k < m.length) (e : l[k] = m[k]) : l.take (k + 1) = m.take (k + 1) := by
  rw [List.take_succ_eq_append_getElem h1, List.take_succ_eq_append_getElem h2, h, e]
theorem take_all {l m : List Rec} {n : Nat} (h : l.take n = m.take n) (h1 : l.length = n) (h2 : m.length = n) : l = m := by
  rwa [List.take_of_length_le (by omega), List.take_of_length_le (by omega)] at h
theorem at_diff {l m : List Rec} {k : Nat} (h1 : k < l.length) (h2 : k < m.length) (e : l[k] ≠ m[k]) : l ≠ m := fun h => by subst h; exact e rfl

set_option maxHeartbeats 1000000 in
theorem recs (A A' : Option Addr) (n c n' c' : Nat) (l m : List Rec) (w : World) (hs : Sr w w.heap.size A n l) (hs' : Sr w w.heap.size A' n' m) (hn : n ≤ 400000000) (hn' : n' ≤ 400000000) :
    Calls Tryz.prog 61 #[.slice A n c, .slice A' n' c'] w fun e w' => e = .returned (.bool (sm l m)) ∧ Below w.heap.size w w' := by
  have mixed : Tryz.prog.follows .mixedOrders = true := by kernel_rfl
  have hg := grd
  have HS := Lib.hid hs
  have HT := Lib.hid hs'
  clear hs hs'
  by_cases hnn : n = n'
  · obtain rfl := hnn
    have hd : ((n : Int) != (n : Int)) = false := by simp
    go_enter Tryz.func61, Tryz.ntmps61
    go_wp2
    go_loopw [5] (fun i wr => ∃ k : Nat, k ≤ n ∧ i = .int .i64 k ∧ Hid (∃ q, wr = w.drewN q) ∧ Hid (l.take k = m.take k)) (fun i _ => n - (intOf i).toNat)
    case atStart => exact ⟨0, Nat.zero_le _, rfl, ⟨0, rfl⟩, rfl⟩
    case round =>
      obtain ⟨k, hk, rfl, HW, HK⟩ := hrel
      obtain ⟨q, rfl⟩ := HW.out
      clear HW
      by_cases hlt : k < n
      · obtain ⟨b, off, rfl, hbB, hcs⟩ := HS.out.2 (by omega)
        obtain ⟨b', off', rfl, hbB', hcs'⟩ := HT.out.2 (by omega)
        have hkl : k < l.length := by rw [HS.out.1]; exact hlt
        have hkm : k < m.length := by rw [HT.out.1]; exact hlt
        obtain ⟨e0, e1, e2, e3, e4, e5⟩ := hcs k hkl
        obtain ⟨f0, f1, f2, f3, f4, f5⟩ := hcs' k hkm
        clear hcs hcs'
        by_cases hrs : l[k] = m[k]
        · have HN := Lib.hid (take_same HK.out hkl hkm hrs)
          rw [← hrs] at f0 f1 f2 f3 f4 f5
          clear hrs
          generalize l[k] = r at *
          have hq := neq_same r
          go_wp2
          go_quiet (fail)
          clear hq e0 e1 e2 e3 e4 e5 f0 f1 f2 f3 f4 f5
          go_wp2
          go_roundw
          case rel => exact ⟨k + 1, by omega, by go_num, ⟨_, rfl⟩, HN.out⟩
          case measure => simp [intOf]; omega
        · have HN := Lib.hid (sm_false (at_diff hkl hkm hrs))
          have hq := neq_diff hrs
          clear hrs
          generalize l[k] = r at *
          generalize m[k] = s at *
          go_wp2
          go_quiet (fail)
          clear hq e0 e1 e2 e3 e4 e5 f0 f1 f2 f3 f4 f5
          go_wp2
          go_ret
          exact ⟨by rw [HN.out]; rfl, (drewN_below w q _).trans (drewN_below _ _ _)⟩
      · obtain rfl : n = k := by omega
        have HN := Lib.hid (sm_true (take_all HK.out HS.out.1 HT.out.1))
        go_wp2
        go_ret
        exact ⟨by rw [HN.out]; rfl, drewN_below _ _ _⟩
  · have hd : ((n : Int) != (n' : Int)) = true := by rw [bne_iff_ne]; omega
    have HN := Lib.hid (sm_false (l := l) (m := m) (fun h => hnn (by rw [← HS.out.1, ← HT.out.1, h])))
    clear hnn
    go_enter Tryz.func61, Tryz.ntmps61
    go_wp2
    go_ret
    exact ⟨by rw [HN.out]; rfl, Below.refl _ _⟩

set_option maxHeartbeats 1000000 in
theorem equal (A A' : Option Addr) (n c n' c' : Nat) (l m : List Rec) (w : World) (hs : Sr w w.heap.size A n l) (hs' : Sr w w.heap.size A' n' m) (hn : n ≤ 400000000) (hn' : n' ≤ 400000000) :
    Calls Tryz.prog 116 #[.slice A n c, .slice A' n' c'] w fun e w' => e = .returned (.bool (sm l m)) ∧ Below w.heap.size w w' := by
  have mixed : Tryz.prog.follows .mixedOrders = true := by kernel_rfl
  have hg := grd
  have HS := Lib.hid hs
  have HT := Lib.hid hs'
  clear hs hs'
  by_cases hnn : n = n'
  · obtain rfl := hnn
    have hd : ((n : Int) != (n : Int)) = false := by simp
    go_enter Tryz.func116, Tryz.ntmps116
    go_wp2
    go_loopw [13] (fun i wr => ∃ k : Nat, k ≤ n ∧ i = .int .i64 k ∧ Hid (∃ q, wr = w.drewN q) ∧ Hid (l.take k = m.take k)) (fun i _ => n - (intOf i).toNat)
    case atStart => exact ⟨0, Nat.zero_le _, rfl, ⟨0, rfl⟩, rfl⟩
    case round =>
      obtain ⟨k, hk, rfl, HW, HK⟩ := hrel
      obtain ⟨q, rfl⟩ := HW.out
      clear HW
      by_cases hlt : k < n
      · obtain ⟨b, off, rfl, hbB, hcs⟩ := HS.out.2 (by omega)
        obtain ⟨b', off', rfl, hbB', hcs'⟩ := HT.out.2 (by omega)
        have hkl : k < l.length := by rw [HS.out.1]; exact hlt
        have hkm : k < m.length := by rw [HT.out.1]; exact hlt
        obtain ⟨e0, e1, e2, e3, e4, e5⟩ := hcs k hkl
        obtain ⟨f0, f1, f2, f3, f4, f5⟩ := hcs' k hkm
        clear hcs hcs'
        by_cases hrs : l[k] = m[k]
        · have HN := Lib.hid (take_same HK.out hkl hkm hrs)
          rw [← hrs] at f0 f1 f2 f3 f4 f5
          clear hrs
          generalize l[k] = r at *
          have hq := neq_same r
          go_wp2
          go_quiet (fail)
          clear hq e0 e1 e2 e3 e4 e5 f0 f1 f2 f3 f4 f5
          go_wp2
          go_roundw
          case rel => exact ⟨k + 1, by omega, by go_num, ⟨_, rfl⟩, HN.out⟩
          case measure => simp [intOf]; omega
        · have HN := Lib.hid (sm_false (at_diff hkl hkm hrs))
          have hq := neq_diff hrs
          clear hrs
          generalize l[k] = r at *
          generalize m[k] = s at *
          go_wp2
          go_quiet (fail)
          clear hq e0 e1 e2 e3 e4 e5 f0 f1 f2 f3 f4 f5
          go_wp2
          go_ret
          exact ⟨by rw [HN.out]; rfl, (drewN_below w q _).trans (drewN_below _ _ _)⟩
      · obtain rfl : n = k := by omega
        have HN := Lib.hid (sm_true (take_all HK.out HS.out.1 HT.out.1))
        go_wp2
        go_ret
        exact ⟨by rw [HN.out]; rfl, drewN_below _ _ _⟩
  · have hd : ((n : Int) != (n' : Int)) = true := by rw [bne_iff_ne]; omega
    have HN := Lib.hid (sm_false (l := l) (m := m) (fun h => hnn (by rw [← HS.out.1, ← HT.out.1, h])))
    clear hnn
    go_enter Tryz.func116, Tryz.ntmps116
    go_wp2
    go_ret
    exact ⟨by rw [HN.out]; rfl, Below.refl _ _⟩

theorem impl (A A' : Option Addr) (n c n' c' : Nat) (l m : List Rec) (w : World) (hs : Sr w w.heap.size A n l) (hs' : Sr w w.heap.size A' n' m) (hn : n ≤ 400000000) (hn' : n' ≤ 400000000) :
    Calls Tryz.prog 64 #[.slice A n c, .slice A' n' c'] w fun e w' => e = .returned (.bool (sm l m)) ∧ Below w.heap.size w w' := by
  have E := Lib.hid (equal A A' n c n' c' l m w hs hs' hn hn')
  clear hs hs'
  go_enter Tryz.func64, Tryz.ntmps64
  go_wp2_with fail
  refine E.out.mono ?_
  rintro e w1 ⟨rfl, hl⟩
  have L := Lib.hid hl
  clear hl
  go_wp2
  go_ret
  exact ⟨rfl, L.out⟩

end Go.Proofs.YtkfibepejlgniaaGreatDoor.SameR

/- What the program's messageOf does: the same fields in another struct; and the sections of it by number. No condition. -/
namespace Go.Proofs.YtkfibepejlgniaaGreatDoor.OfM
open Go.RowKit Go.Proofs.YtkfibepejlgniaaGreatDoor.Mem Go.Proofs.YtkfibepejlgniaaGreatDoor.MemR Go.Proofs.YtkfibepejlgniaaGreatDoor.MemM Go.Proofs.YtkfibepejlgniaaGreatDoor.ResM

set_option maxHeartbeats 2000000 in
theorem ofI (h : Hd) (A1 A2 A3 : Option Addr) (n1 c1 n2 c2 n3 c3 : Nat) (w : World) : Calls Tryz.prog 63 #[.agg #[.int .i64 h.id, .bool h.rp, .bool h.au, .bool h.ct, .bool h.wa, .bool h.ca, .int .i64 h.code, .string h.qn, .int .i64 h.qt, .slice A1 n1 c1, .slice A2 n2 c2, .slice A3 n3 c3]] w fun e w' => e = .returned (.agg #[.int .i64 h.id, .bool h.rp, .bool h.au, .bool h.ct, .bool h.wa, .bool h.ca, .int .i64 h.code, .string h.qn, .int .i64 h.qt, .slice A1 n1 c1, .slice A2 n2 c2, .slice A3 n3 c3]) ∧ Below w.heap.size w w' := by
  go_enter Tryz.func63, Tryz.ntmps63
  go_wp2
  refine bodyPost_ret (v := .agg #[.int .i64 h.id, .bool h.rp, .bool h.au, .bool h.ct, .bool h.wa, .bool h.ca, .int .i64 h.code, .string h.qn, .int .i64 h.qt, .slice A1 n1 c1, .slice A2 n2 c2, .slice A3 n3 c3]) (by simp [results, Tryz.results63, go_sem]) rfl ⟨rfl, ?_⟩
  repeat (first | exact Below.refl _ _ | refine Below.setCell ?_ (by simp; try omega) _ | refine Below.alloc ?_ (by simp; try omega) _)

theorem at0 (A1 A2 A3 : Option Addr) (n1 c1 n2 c2 n3 c3 : Nat) (W : World) : Sem.run Tryz.prog (Instr.index 73 (.agg #[.slice A1 n1 c1, .slice A2 n2 c2, .slice A3 n3 c3]) (.int .i64 0)) W = .ok (.slice A1 n1 c1) W := by
  simp [Instr.index, go_sem]

theorem at1' (A1 A2 A3 : Option Addr) (n1 c1 n2 c2 n3 c3 : Nat) (W : World) : Sem.run Tryz.prog (Instr.index 73 (.agg #[.slice A1 n1 c1, .slice A2 n2 c2, .slice A3 n3 c3]) (.int .i64 1)) W = .ok (.slice A2 n2 c2) W := by
  simp [Instr.index, go_sem]

theorem at2' (A1 A2 A3 : Option Addr) (n1 c1 n2 c2 n3 c3 : Nat) (W : World) : Sem.run Tryz.prog (Instr.index 73 (.agg #[.slice A1 n1 c1, .slice A2 n2 c2, .slice A3 n3 c3]) (.int .i64 2)) W = .ok (.slice A3 n3 c3) W := by
  simp [Instr.index, go_sem]

end Go.Proofs.YtkfibepejlgniaaGreatDoor.OfM

/- What SameMsg does in the program and in the model: whether two messages are equal in all fields and all records. Condition: fewer than 400000001 records in each section. -/
namespace Go.Proofs.YtkfibepejlgniaaGreatDoor.SamM
open Go.RowKit Go.Proofs.YtkfibepejlgniaaGreatDoor.Mem Go.Proofs.YtkfibepejlgniaaGreatDoor.MemR Go.Proofs.YtkfibepejlgniaaGreatDoor.BoxR Go.Proofs.YtkfibepejlgniaaGreatDoor.MemM Go.Proofs.YtkfibepejlgniaaGreatDoor.ResM Go.Proofs.YtkfibepejlgniaaGreatDoor.SameR Go.Proofs.YtkfibepejlgniaaGreatDoor.OfM

/-- Whether two messages are equal but for the records, field by field. -/
def hid7 (h k : Hd) : Prop := h.id = k.id ∧ h.rp = k.rp ∧ h.au = k.au ∧ h.ct = k.ct ∧ h.wa = k.wa ∧ h.ca = k.ca ∧ h.code = k.code
noncomputable def hm (h k : Hd) : Bool := @decide (hid7 h k) (Classical.propDecidable _)
noncomputable def qm (h k : Hd) : Bool := @decide (h.qn = k.qn ∧ h.qt = k.qt) (Classical.propDecidable _)
/-- Whether two messages are the same. A def, so that no step of a walk opens it. -/
noncomputable def smm (h k : Hd) (l1 l2 l3 m1 m2 m3 : List Rec) : Bool := hm h k && (qm h k && (sm l1 m1 && (sm l2 m2 && sm l3 m3)))
theorem hm_true {h k : Hd} (e : hid7 h k) : hm h k = true := @decide_eq_true _ (Classical.propDecidable _) e
theorem hm_false {h k : Hd} (e : ¬ hid7 h k) : hm h k = false := @decide_eq_false _ (Classical.propDecidable _) e
theorem qm_true {h k : Hd} (e : h.qn = k.qn ∧ h.qt = k.qt) : qm h k = true := @decide_eq_true _ (Classical.propDecidable _) e
theorem qm_false {h k : Hd} (e : ¬ (h.qn = k.qn ∧ h.qt = k.qt)) : qm h k = false := @decide_eq_false _ (Classical.propDecidable _) e

theorem neqH_same (h : Hd) (w : World) : Sem.run Tryz.prog (binOp .neq 72 (.agg #[.int .i64 h.id, .bool h.rp, .bool h.au, .bool h.ct, .bool h.wa, .bool h.ca, .int .i64 h.code]) (.agg #[.int .i64 h.id, .bool h.rp, .bool h.au, .bool h.ct, .bool h.wa, .bool h.ca, .int .i64 h.code])) w = .ok (.bool false) w := by
  have u3 := Tryz.underlying3
  have a3 := Tryz.isAgg3
  have z3 := Tryz.sizeOf3
  have u4 := Tryz.underlying4
  have a4 := Tryz.isAgg4
  have z4 := Tryz.sizeOf4
  have hS : Tryz.prog.underlying 72 = some (.struct (Tryz.prog.fieldsOf 72)) := by kernel_rfl
  have hp : Tryz.prog.stoodInHeld 72 = false := by kernel_rfl
  rw [run_neq_struct, show (10000 : Nat) = 9999 + 1 from rfl, run_equalIn_agg w 9999 72 _ _ hS hp]
  simp only [Program.fieldsOf, Tryz.underlying72]
  go_simp

theorem neqH_diff {h k : Hd} (e : ¬ hid7 h k) (w : World) : Sem.run Tryz.prog (binOp .neq 72 (.agg #[.int .i64 h.id, .bool h.rp, .bool h.au, .bool h.ct, .bool h.wa, .bool h.ca, .int .i64 h.code]) (.agg #[.int .i64 k.id, .bool k.rp, .bool k.au, .bool k.ct, .bool k.wa, .bool k.ca, .int .i64 k.code])) w = .ok (.bool true) w := by
  have u3 := Tryz.underlying3
  have a3 := Tryz.isAgg3
  have z3 := Tryz.sizeOf3
  have u4 := Tryz.underlying4
  have a4 := Tryz.isAgg4
  have z4 := Tryz.sizeOf4
  have hS : Tryz.prog.underlying 72 = some (.struct (Tryz.prog.fieldsOf 72)) := by kernel_rfl
  have hp : Tryz.prog.stoodInHeld 72 = false := by kernel_rfl
  rw [run_neq_struct, show (10000 : Nat) = 9999 + 1 from rfl, run_equalIn_agg w 9999 72 _ _ hS hp]
  simp only [Program.fieldsOf, Tryz.underlying72]
  obtain ⟨i1, p1, q1, r1, s1, t1, d1, _, _⟩ := h
  obtain ⟨i2, p2, q2, r2, s2, t2, d2, _, _⟩ := k
  unfold hid7 at e
  simp only at e ⊢
  by_cases c0 : i1 = i2
  · subst c0
    by_cases c1 : p1 = p2
    · subst c1
      by_cases c2 : q1 = q2
      · subst c2
        by_cases c3 : r1 = r2
        · subst c3
          by_cases c4 : s1 = s2
          · subst c4
            by_cases c5 : t1 = t2
            · subst c5
              by_cases c6 : d1 = d2
              · exact absurd ⟨rfl, rfl, rfl, rfl, rfl, rfl, c6⟩ e
              · go_simp
            · have k := beq_eq_false_iff_ne.2 c5
              go_simp
          · have k := beq_eq_false_iff_ne.2 c4
            go_simp
        · have k := beq_eq_false_iff_ne.2 c3
          go_simp
      · have k := beq_eq_false_iff_ne.2 c2
        go_simp
    · have k := beq_eq_false_iff_ne.2 c1
      go_simp
  · go_simp

theorem neqQ_same (s : ByteArray) (n : Int) (w : World) : Sem.run Tryz.prog (binOp .neq 25 (.agg #[.string s, .int .i64 n]) (.agg #[.string s, .int .i64 n])) w = .ok (.bool false) w := by
  have u3 := Tryz.underlying3
  have a3 := Tryz.isAgg3
  have z3 := Tryz.sizeOf3
  have u9 := Tryz.underlying9
  have a9 := Tryz.isAgg9
  have z9 := Tryz.sizeOf9
  have hS : Tryz.prog.underlying 25 = some (.struct (Tryz.prog.fieldsOf 25)) := by kernel_rfl
  have hp : Tryz.prog.stoodInHeld 25 = false := by kernel_rfl
  rw [run_neq_struct, show (10000 : Nat) = 9999 + 1 from rfl, run_equalIn_agg w 9999 25 _ _ hS hp]
  simp only [Program.fieldsOf, Tryz.underlying25]
  go_simp

theorem neqQ_diff {s t : ByteArray} {n m : Int} (e : ¬ (s = t ∧ n = m)) (w : World) : Sem.run Tryz.prog (binOp .neq 25 (.agg #[.string s, .int .i64 n]) (.agg #[.string t, .int .i64 m])) w = .ok (.bool true) w := by
  have u3 := Tryz.underlying3
  have a3 := Tryz.isAgg3
  have z3 := Tryz.sizeOf3
  have u9 := Tryz.underlying9
  have a9 := Tryz.isAgg9
  have z9 := Tryz.sizeOf9
  have hS : Tryz.prog.underlying 25 = some (.struct (Tryz.prog.fieldsOf 25)) := by kernel_rfl
  have hp : Tryz.prog.stoodInHeld 25 = false := by kernel_rfl
  rw [run_neq_struct, show (10000 : Nat) = 9999 + 1 from rfl, run_equalIn_agg w 9999 25 _ _ hS hp]
  simp only [Program.fieldsOf, Tryz.underlying25]
  by_cases c0 : s = t
  · subst c0
    by_cases c1 : n = m
    · exact absurd ⟨rfl, c1⟩ e
    · go_simp
  · have k := bytes_ne c0
    go_simp

theorem eqlQ_same (s : ByteArray) (n : Int) (w : World) : Sem.run Tryz.prog (binOp .eql 25 (.agg #[.string s, .int .i64 n]) (.agg #[.string s, .int .i64 n])) w = .ok (.bool true) w := by
  have u3 := Tryz.underlying3
  have a3 := Tryz.isAgg3
  have z3 := Tryz.sizeOf3
  have u9 := Tryz.underlying9
  have a9 := Tryz.isAgg9
  have z9 := Tryz.sizeOf9
  have hS : Tryz.prog.underlying 25 = some (.struct (Tryz.prog.fieldsOf 25)) := by kernel_rfl
  have hp : Tryz.prog.stoodInHeld 25 = false := by kernel_rfl
  rw [run_eql_struct, show (10000 : Nat) = 9999 + 1 from rfl, run_equalIn_agg w 9999 25 _ _ hS hp]
  simp only [Program.fieldsOf, Tryz.underlying25]
  go_simp

theorem eqlQ_diff {s t : ByteArray} {n m : Int} (e : ¬ (s = t ∧ n = m)) (w : World) : Sem.run Tryz.prog (binOp .eql 25 (.agg #[.string s, .int .i64 n]) (.agg #[.string t, .int .i64 m])) w = .ok (.bool false) w := by
  have u3 := Tryz.underlying3
  have a3 := Tryz.isAgg3
  have z3 := Tryz.sizeOf3
  have u9 := Tryz.underlying9
  have a9 := Tryz.isAgg9
  have z9 := Tryz.sizeOf9
  have hS : Tryz.prog.underlying 25 = some (.struct (Tryz.prog.fieldsOf 25)) := by kernel_rfl
  have hp : Tryz.prog.stoodInHeld 25 = false := by kernel_rfl
  rw [run_eql_struct, show (10000 : Nat) = 9999 + 1 from rfl, run_equalIn_agg w 9999 25 _ _ hS hp]
  simp only [Program.fieldsOf, Tryz.underlying25]
  by_cases c0 : s = t
  · subst c0
    by_cases c1 : n = m
    · exact absurd ⟨rfl, c1⟩ e
    · go_simp
  · have k := bytes_ne c0
    go_simp

theorem grdH : Tryz.prog.eqGuardType Tryz.prog.depth 72 = false := by kernel_rfl
theorem grdQ : Tryz.prog.eqGuardType Tryz.prog.depth 25 = false := by kernel_rfl

theorem smm_h {h k : Hd} {l1 l2 l3 m1 m2 m3 : List Rec} (e : ¬ hid7 h k) : smm h k l1 l2 l3 m1 m2 m3 = false := by rw [smm, hm_false e]; rfl
theorem smm_q {h k : Hd} {l1 l2 l3 m1 m2 m3 : List Rec} (e : ¬ (h.qn = k.qn ∧ h.qt = k.qt)) : smm h k l1 l2 l3 m1 m2 m3 = false := by rw [smm, qm_false e, Bool.false_and, Bool.and_false]
theorem smm_r {h : Hd} {l1 l2 l3 m1 m2 m3 : List Rec} : smm h h l1 l2 l3 m1 m2 m3 = (sm l1 m1 && (sm l2 m2 && sm l3 m3)) := by rw [smm, hm_true ⟨rfl, rfl, rfl, rfl, rfl, rfl, rfl⟩, qm_true ⟨rfl, rfl⟩]; rfl
end Go.Proofs.YtkfibepejlgniaaGreatDoor.SamM

/- Some ways of sameMsg. -/
namespace Go.Proofs.YtkfibepejlgniaaGreatDoor.SamF
open Go.RowKit Go.Proofs.YtkfibepejlgniaaGreatDoor.Mem Go.Proofs.YtkfibepejlgniaaGreatDoor.MemR Go.Proofs.YtkfibepejlgniaaGreatDoor.BoxR Go.Proofs.YtkfibepejlgniaaGreatDoor.MemM Go.Proofs.YtkfibepejlgniaaGreatDoor.ResM Go.Proofs.YtkfibepejlgniaaGreatDoor.SameR Go.Proofs.YtkfibepejlgniaaGreatDoor.SamM

set_option maxRecDepth 100000 in
set_option maxHeartbeats 4000000 in
theorem lw_f0 (ia : Int) (pa : Bool) (qa : Bool) (ra : Bool) (sa : Bool) (ta : Bool) (da : Int) (nma : ByteArray) (tya : Int) (ib : Int) (pb : Bool) (qb : Bool) (rb : Bool) (sb : Bool) (tb : Bool) (db : Int) (nmb : ByteArray) (tyb : Int) (A1 A1' : Option Addr) (n1 n1' c1 c1' : Nat) (A2 A2' : Option Addr) (n2 n2' c2 c2' : Nat) (A3 A3' : Option Addr) (n3 n3' c3 c3' : Nat) (w : World) (c : ¬ ia = ib) : Calls Tryz.prog 16 #[.agg #[.int .i64 ia, .bool pa, .bool qa, .bool ra, .bool sa, .bool ta, .int .i64 da, .string nma, .int .i64 tya, .slice A1 n1 c1, .slice A2 n2 c2, .slice A3 n3 c3], .agg #[.int .i64 ib, .bool pb, .bool qb, .bool rb, .bool sb, .bool tb, .int .i64 db, .string nmb, .int .i64 tyb, .slice A1' n1' c1', .slice A2' n2' c2', .slice A3' n3' c3']] w fun e w' => e = .returned (.bool false) ∧ Below w.heap.size w w' := by
  have kk := beq_eq_false_iff_ne.2 c
  go_enter Tryz.func16, Tryz.ntmps16
  go_wp2
  go_ret
  exact ⟨rfl, ((Below.refl _ _).alloc (Nat.le_refl _) _).alloc (by simp) _⟩

set_option maxRecDepth 100000 in
set_option maxHeartbeats 4000000 in
theorem lw_f1 (ia : Int) (pa : Bool) (qa : Bool) (ra : Bool) (sa : Bool) (ta : Bool) (da : Int) (nma : ByteArray) (tya : Int) (pb : Bool) (qb : Bool) (rb : Bool) (sb : Bool) (tb : Bool) (db : Int) (nmb : ByteArray) (tyb : Int) (A1 A1' : Option Addr) (n1 n1' c1 c1' : Nat) (A2 A2' : Option Addr) (n2 n2' c2 c2' : Nat) (A3 A3' : Option Addr) (n3 n3' c3 c3' : Nat) (w : World) (c : ¬ pa = pb) : Calls Tryz.prog 16 #[.agg #[.int .i64 ia, .bool pa, .bool qa, .bool ra, .bool sa, .bool ta, .int .i64 da, .string nma, .int .i64 tya, .slice A1 n1 c1, .slice A2 n2 c2, .slice A3 n3 c3], .agg #[.int .i64 ia, .bool pb, .bool qb, .bool rb, .bool sb, .bool tb, .int .i64 db, .string nmb, .int .i64 tyb, .slice A1' n1' c1', .slice A2' n2' c2', .slice A3' n3' c3']] w fun e w' => e = .returned (.bool false) ∧ Below w.heap.size w w' := by
  have kk := beq_eq_false_iff_ne.2 c
  go_enter Tryz.func16, Tryz.ntmps16
  go_wp2
  go_ret
  exact ⟨rfl, ((Below.refl _ _).alloc (Nat.le_refl _) _).alloc (by simp) _⟩

set_option maxRecDepth 100000 in
set_option maxHeartbeats 4000000 in
theorem lw_f2 (ia : Int) (pa : Bool) (qa : Bool) (ra : Bool) (sa : Bool) (ta : Bool) (da : Int) (nma : ByteArray) (tya : Int) (qb : Bool) (rb : Bool) (sb : Bool) (tb : Bool) (db : Int) (nmb : ByteArray) (tyb : Int) (A1 A1' : Option Addr) (n1 n1' c1 c1' : Nat) (A2 A2' : Option Addr) (n2 n2' c2 c2' : Nat) (A3 A3' : Option Addr) (n3 n3' c3 c3' : Nat) (w : World) (c : ¬ qa = qb) : Calls Tryz.prog 16 #[.agg #[.int .i64 ia, .bool pa, .bool qa, .bool ra, .bool sa, .bool ta, .int .i64 da, .string nma, .int .i64 tya, .slice A1 n1 c1, .slice A2 n2 c2, .slice A3 n3 c3], .agg #[.int .i64 ia, .bool pa, .bool qb, .bool rb, .bool sb, .bool tb, .int .i64 db, .string nmb, .int .i64 tyb, .slice A1' n1' c1', .slice A2' n2' c2', .slice A3' n3' c3']] w fun e w' => e = .returned (.bool false) ∧ Below w.heap.size w w' := by
  have kk := beq_eq_false_iff_ne.2 c
  go_enter Tryz.func16, Tryz.ntmps16
  go_wp2
  go_ret
  exact ⟨rfl, ((Below.refl _ _).alloc (Nat.le_refl _) _).alloc (by simp) _⟩

end Go.Proofs.YtkfibepejlgniaaGreatDoor.SamF

/- Some ways of sameMsg. -/
namespace Go.Proofs.YtkfibepejlgniaaGreatDoor.SamG
open Go.RowKit Go.Proofs.YtkfibepejlgniaaGreatDoor.Mem Go.Proofs.YtkfibepejlgniaaGreatDoor.MemR Go.Proofs.YtkfibepejlgniaaGreatDoor.BoxR Go.Proofs.YtkfibepejlgniaaGreatDoor.MemM Go.Proofs.YtkfibepejlgniaaGreatDoor.ResM Go.Proofs.YtkfibepejlgniaaGreatDoor.SameR Go.Proofs.YtkfibepejlgniaaGreatDoor.SamM

set_option maxRecDepth 100000 in
set_option maxHeartbeats 4000000 in
theorem lw_f3 (ia : Int) (pa : Bool) (qa : Bool) (ra : Bool) (sa : Bool) (ta : Bool) (da : Int) (nma : ByteArray) (tya : Int) (rb : Bool) (sb : Bool) (tb : Bool) (db : Int) (nmb : ByteArray) (tyb : Int) (A1 A1' : Option Addr) (n1 n1' c1 c1' : Nat) (A2 A2' : Option Addr) (n2 n2' c2 c2' : Nat) (A3 A3' : Option Addr) (n3 n3' c3 c3' : Nat) (w : World) (c : ¬ ra = rb) : Calls Tryz.prog 16 #[.agg #[.int .i64 ia, .bool pa, .bool qa, .bool ra, .bool sa, .bool ta, .int .i64 da, .string nma, .int .i64 tya, .slice A1 n1 c1, .slice A2 n2 c2, .slice A3 n3 c3], .agg #[.int .i64 ia, .bool pa, .bool qa, .bool rb, .bool sb, .bool tb, .int .i64 db, .string nmb, .int .i64 tyb, .slice A1' n1' c1', .slice A2' n2' c2', .slice A3' n3' c3']] w fun e w' => e = .returned (.bool false) ∧ Below w.heap.size w w' := by
  have kk := beq_eq_false_iff_ne.2 c
  go_enter Tryz.func16, Tryz.ntmps16
  go_wp2
  go_ret
  exact ⟨rfl, ((Below.refl _ _).alloc (Nat.le_refl _) _).alloc (by simp) _⟩

set_option maxRecDepth 100000 in
set_option maxHeartbeats 4000000 in
theorem lw_f4 (ia : Int) (pa : Bool) (qa : Bool) (ra : Bool) (sa : Bool) (ta : Bool) (da : Int) (nma : ByteArray) (tya : Int) (sb : Bool) (tb : Bool) (db : Int) (nmb : ByteArray) (tyb : Int) (A1 A1' : Option Addr) (n1 n1' c1 c1' : Nat) (A2 A2' : Option Addr) (n2 n2' c2 c2' : Nat) (A3 A3' : Option Addr) (n3 n3' c3 c3' : Nat) (w : World) (c : ¬ sa = sb) : Calls Tryz.prog 16 #[.agg #[.int .i64 ia, .bool pa, .bool qa, .bool ra, .bool sa, .bool ta, .int .i64 da, .string nma, .int .i64 tya, .slice A1 n1 c1, .slice A2 n2 c2, .slice A3 n3 c3], .agg #[.int .i64 ia, .bool pa, .bool qa, .bool ra, .bool sb, .bool tb, .int .i64 db, .string nmb, .int .i64 tyb, .slice A1' n1' c1', .slice A2' n2' c2', .slice A3' n3' c3']] w fun e w' => e = .returned (.bool false) ∧ Below w.heap.size w w' := by
  have kk := beq_eq_false_iff_ne.2 c
  go_enter Tryz.func16, Tryz.ntmps16
  go_wp2
  go_ret
  exact ⟨rfl, ((Below.refl _ _).alloc (Nat.le_refl _) _).alloc (by simp) _⟩

set_option maxRecDepth 100000 in
set_option maxHeartbeats 4000000 in
theorem lw_f5 (ia : Int) (pa : Bool) (qa : Bool) (ra : Bool) (sa : Bool) (ta : Bool) (da : Int) (nma : ByteArray) (tya : Int) (tb : Bool) (db : Int) (nmb : ByteArray) (tyb : Int) (A1 A1' : Option Addr) (n1 n1' c1 c1' : Nat) (A2 A2' : Option Addr) (n2 n2' c2 c2' : Nat) (A3 A3' : Option Addr) (n3 n3' c3 c3' : Nat) (w : World) (c : ¬ ta = tb) : Calls Tryz.prog 16 #[.agg #[.int .i64 ia, .bool pa, .bool qa, .bool ra, .bool sa, .bool ta, .int .i64 da, .string nma, .int .i64 tya, .slice A1 n1 c1, .slice A2 n2 c2, .slice A3 n3 c3], .agg #[.int .i64 ia, .bool pa, .bool qa, .bool ra, .bool sa, .bool tb, .int .i64 db, .string nmb, .int .i64 tyb, .slice A1' n1' c1', .slice A2' n2' c2', .slice A3' n3' c3']] w fun e w' => e = .returned (.bool false) ∧ Below w.heap.size w w' := by
  have kk := beq_eq_false_iff_ne.2 c
  go_enter Tryz.func16, Tryz.ntmps16
  go_wp2
  go_ret
  exact ⟨rfl, ((Below.refl _ _).alloc (Nat.le_refl _) _).alloc (by simp) _⟩

end Go.Proofs.YtkfibepejlgniaaGreatDoor.SamG

/- Some ways of sameMsg. -/
namespace Go.Proofs.YtkfibepejlgniaaGreatDoor.SamH
open Go.RowKit Go.Proofs.YtkfibepejlgniaaGreatDoor.Mem Go.Proofs.YtkfibepejlgniaaGreatDoor.MemR Go.Proofs.YtkfibepejlgniaaGreatDoor.BoxR Go.Proofs.YtkfibepejlgniaaGreatDoor.MemM Go.Proofs.YtkfibepejlgniaaGreatDoor.ResM Go.Proofs.YtkfibepejlgniaaGreatDoor.SameR Go.Proofs.YtkfibepejlgniaaGreatDoor.SamM

set_option maxRecDepth 100000 in
set_option maxHeartbeats 4000000 in
theorem lw_f6 (ia : Int) (pa : Bool) (qa : Bool) (ra : Bool) (sa : Bool) (ta : Bool) (da : Int) (nma : ByteArray) (tya : Int) (db : Int) (nmb : ByteArray) (tyb : Int) (A1 A1' : Option Addr) (n1 n1' c1 c1' : Nat) (A2 A2' : Option Addr) (n2 n2' c2 c2' : Nat) (A3 A3' : Option Addr) (n3 n3' c3 c3' : Nat) (w : World) (c : ¬ da = db) : Calls Tryz.prog 16 #[.agg #[.int .i64 ia, .bool pa, .bool qa, .bool ra, .bool sa, .bool ta, .int .i64 da, .string nma, .int .i64 tya, .slice A1 n1 c1, .slice A2 n2 c2, .slice A3 n3 c3], .agg #[.int .i64 ia, .bool pa, .bool qa, .bool ra, .bool sa, .bool ta, .int .i64 db, .string nmb, .int .i64 tyb, .slice A1' n1' c1', .slice A2' n2' c2', .slice A3' n3' c3']] w fun e w' => e = .returned (.bool false) ∧ Below w.heap.size w w' := by
  have kk := beq_eq_false_iff_ne.2 c
  go_enter Tryz.func16, Tryz.ntmps16
  go_wp2
  go_ret
  exact ⟨rfl, ((Below.refl _ _).alloc (Nat.le_refl _) _).alloc (by simp) _⟩

set_option maxRecDepth 100000 in
set_option maxHeartbeats 4000000 in
theorem lw_f7 (ia : Int) (pa : Bool) (qa : Bool) (ra : Bool) (sa : Bool) (ta : Bool) (da : Int) (nma : ByteArray) (tya : Int) (nmb : ByteArray) (tyb : Int) (A1 A1' : Option Addr) (n1 n1' c1 c1' : Nat) (A2 A2' : Option Addr) (n2 n2' c2 c2' : Nat) (A3 A3' : Option Addr) (n3 n3' c3 c3' : Nat) (w : World) (c : ¬ (nma = nmb ∧ tya = tyb)) : Calls Tryz.prog 16 #[.agg #[.int .i64 ia, .bool pa, .bool qa, .bool ra, .bool sa, .bool ta, .int .i64 da, .string nma, .int .i64 tya, .slice A1 n1 c1, .slice A2 n2 c2, .slice A3 n3 c3], .agg #[.int .i64 ia, .bool pa, .bool qa, .bool ra, .bool sa, .bool ta, .int .i64 da, .string nmb, .int .i64 tyb, .slice A1' n1' c1', .slice A2' n2' c2', .slice A3' n3' c3']] w fun e w' => e = .returned (.bool false) ∧ Below w.heap.size w w' := by
  have kk := eqlQ_diff c
  have hg := grdQ
  clear c
  go_enter Tryz.func16, Tryz.ntmps16
  go_wp2
  go_ret
  exact ⟨rfl, ((Below.refl _ _).alloc (Nat.le_refl _) _).alloc (by simp) _⟩

end Go.Proofs.YtkfibepejlgniaaGreatDoor.SamH

/- Some ways of sameMsg. -/
namespace Go.Proofs.YtkfibepejlgniaaGreatDoor.SamI
open Go.RowKit Go.Proofs.YtkfibepejlgniaaGreatDoor.Mem Go.Proofs.YtkfibepejlgniaaGreatDoor.MemR Go.Proofs.YtkfibepejlgniaaGreatDoor.BoxR Go.Proofs.YtkfibepejlgniaaGreatDoor.MemM Go.Proofs.YtkfibepejlgniaaGreatDoor.ResM Go.Proofs.YtkfibepejlgniaaGreatDoor.SameR Go.Proofs.YtkfibepejlgniaaGreatDoor.SamM

set_option maxRecDepth 100000 in
set_option maxHeartbeats 8000000 in
theorem lw_r1 (ia : Int) (pa : Bool) (qa : Bool) (ra : Bool) (sa : Bool) (ta : Bool) (da : Int) (nma : ByteArray) (tya : Int) (A1 A1' : Option Addr) (n1 n1' c1 c1' : Nat) (A2 A2' : Option Addr) (n2 n2' c2 c2' : Nat) (A3 A3' : Option Addr) (n3 n3' c3 c3' : Nat) (w : World) (C1 : ∀ W : World, Below w.heap.size w W → Calls Tryz.prog 61 #[.slice A1 n1 c1, .slice A1' n1' c1'] W fun e w' => e = .returned (.bool false) ∧ Below W.heap.size W w') : Calls Tryz.prog 16 #[.agg #[.int .i64 ia, .bool pa, .bool qa, .bool ra, .bool sa, .bool ta, .int .i64 da, .string nma, .int .i64 tya, .slice A1 n1 c1, .slice A2 n2 c2, .slice A3 n3 c3], .agg #[.int .i64 ia, .bool pa, .bool qa, .bool ra, .bool sa, .bool ta, .int .i64 da, .string nma, .int .i64 tya, .slice A1' n1' c1', .slice A2' n2' c2', .slice A3' n3' c3']] w fun e w' => e = .returned (.bool false) ∧ Below w.heap.size w w' := by
  have hg := grdQ
  have hqs := eqlQ_same nma tya
  have D1 := Lib.hid C1
  clear C1
  have L0 := Lib.hid (((Below.refl w.heap.size w).alloc (Nat.le_refl _) (.cells #[.int .i64 ia, .bool pa, .bool qa, .bool ra, .bool sa, .bool ta, .int .i64 da, .string nma, .int .i64 tya, .slice A1 n1 c1, .slice A2 n2 c2, .slice A3 n3 c3] 28)).alloc (by simp) (.cells #[.int .i64 ia, .bool pa, .bool qa, .bool ra, .bool sa, .bool ta, .int .i64 da, .string nma, .int .i64 tya, .slice A1' n1' c1', .slice A2' n2' c2', .slice A3' n3' c3'] 28))
  have X0 : Hid (Mx ((w.alloc (.cells #[.int .i64 ia, .bool pa, .bool qa, .bool ra, .bool sa, .bool ta, .int .i64 da, .string nma, .int .i64 tya, .slice A1 n1 c1, .slice A2 n2 c2, .slice A3 n3 c3] 28)).alloc (.cells #[.int .i64 ia, .bool pa, .bool qa, .bool ra, .bool sa, .bool ta, .int .i64 da, .string nma, .int .i64 tya, .slice A1' n1' c1', .slice A2' n2' c2', .slice A3' n3' c3'] 28)) w.heap.size ⟨ia, pa, qa, ra, sa, ta, da, nma, tya⟩ (.slice A1 n1 c1) (.slice A2 n2 c2) (.slice A3 n3 c3)) := (mx_new w 28 ⟨ia, pa, qa, ra, sa, ta, da, nma, tya⟩ (.slice A1 n1 c1) (.slice A2 n2 c2) (.slice A3 n3 c3)).alloc _
  have Y0 : Hid (Mx ((w.alloc (.cells #[.int .i64 ia, .bool pa, .bool qa, .bool ra, .bool sa, .bool ta, .int .i64 da, .string nma, .int .i64 tya, .slice A1 n1 c1, .slice A2 n2 c2, .slice A3 n3 c3] 28)).alloc (.cells #[.int .i64 ia, .bool pa, .bool qa, .bool ra, .bool sa, .bool ta, .int .i64 da, .string nma, .int .i64 tya, .slice A1' n1' c1', .slice A2' n2' c2', .slice A3' n3' c3'] 28)) (w.heap.size + 1) ⟨ia, pa, qa, ra, sa, ta, da, nma, tya⟩ (.slice A1' n1' c1') (.slice A2' n2' c2') (.slice A3' n3' c3')) := mx_of (h := ⟨ia, pa, qa, ra, sa, ta, da, nma, tya⟩) (x := .slice A1' n1' c1') (y := .slice A2' n2' c2') (z := .slice A3' n3' c3') at2
  go_enter Tryz.func16, Tryz.ntmps16
  go_wp2_with fail
  refine (D1.out _ L0.out).mono ?_
  rintro e w1 ⟨rfl, hl⟩
  have L1 := Lib.hid (L0.out.trans (hl.mono L0.out.size))
  have X1 := Lib.hid (X0.out.below hl)
  have Y1 := Lib.hid (Y0.out.below hl)
  clear hl L0 X0 Y0 
  go_wp2
  go_ret
  exact ⟨rfl, L1.out⟩

set_option maxRecDepth 100000 in
set_option maxHeartbeats 8000000 in
theorem lw_r2 (ia : Int) (pa : Bool) (qa : Bool) (ra : Bool) (sa : Bool) (ta : Bool) (da : Int) (nma : ByteArray) (tya : Int) (A1 A1' : Option Addr) (n1 n1' c1 c1' : Nat) (A2 A2' : Option Addr) (n2 n2' c2 c2' : Nat) (A3 A3' : Option Addr) (n3 n3' c3 c3' : Nat) (w : World) (C1 : ∀ W : World, Below w.heap.size w W → Calls Tryz.prog 61 #[.slice A1 n1 c1, .slice A1' n1' c1'] W fun e w' => e = .returned (.bool true) ∧ Below W.heap.size W w') (C2 : ∀ W : World, Below w.heap.size w W → Calls Tryz.prog 61 #[.slice A2 n2 c2, .slice A2' n2' c2'] W fun e w' => e = .returned (.bool false) ∧ Below W.heap.size W w') : Calls Tryz.prog 16 #[.agg #[.int .i64 ia, .bool pa, .bool qa, .bool ra, .bool sa, .bool ta, .int .i64 da, .string nma, .int .i64 tya, .slice A1 n1 c1, .slice A2 n2 c2, .slice A3 n3 c3], .agg #[.int .i64 ia, .bool pa, .bool qa, .bool ra, .bool sa, .bool ta, .int .i64 da, .string nma, .int .i64 tya, .slice A1' n1' c1', .slice A2' n2' c2', .slice A3' n3' c3']] w fun e w' => e = .returned (.bool false) ∧ Below w.heap.size w w' := by
  have hg := grdQ
  have hqs := eqlQ_same nma tya
  have D1 := Lib.hid C1
  have D2 := Lib.hid C2
  clear C1 C2
  have L0 := Lib.hid (((Below.refl w.heap.size w).alloc (Nat.le_refl _) (.cells #[.int .i64 ia, .bool pa, .bool qa, .bool ra, .bool sa, .bool ta, .int .i64 da, .string nma, .int .i64 tya, .slice A1 n1 c1, .slice A2 n2 c2, .slice A3 n3 c3] 28)).alloc (by simp) (.cells #[.int .i64 ia, .bool pa, .bool qa, .bool ra, .bool sa, .bool ta, .int .i64 da, .string nma, .int .i64 tya, .slice A1' n1' c1', .slice A2' n2' c2', .slice A3' n3' c3'] 28))
  have X0 : Hid (Mx ((w.alloc (.cells #[.int .i64 ia, .bool pa, .bool qa, .bool ra, .bool sa, .bool ta, .int .i64 da, .string nma, .int .i64 tya, .slice A1 n1 c1, .slice A2 n2 c2, .slice A3 n3 c3] 28)).alloc (.cells #[.int .i64 ia, .bool pa, .bool qa, .bool ra, .bool sa, .bool ta, .int .i64 da, .string nma, .int .i64 tya, .slice A1' n1' c1', .slice A2' n2' c2', .slice A3' n3' c3'] 28)) w.heap.size ⟨ia, pa, qa, ra, sa, ta, da, nma, tya⟩ (.slice A1 n1 c1) (.slice A2 n2 c2) (.slice A3 n3 c3)) := (mx_new w 28 ⟨ia, pa, qa, ra, sa, ta, da, nma, tya⟩ (.slice A1 n1 c1) (.slice A2 n2 c2) (.slice A3 n3 c3)).alloc _
  have Y0 : Hid (Mx ((w.alloc (.cells #[.int .i64 ia, .bool pa, .bool qa, .bool ra, .bool sa, .bool ta, .int .i64 da, .string nma, .int .i64 tya, .slice A1 n1 c1, .slice A2 n2 c2, .slice A3 n3 c3] 28)).alloc (.cells #[.int .i64 ia, .bool pa, .bool qa, .bool ra, .bool sa, .bool ta, .int .i64 da, .string nma, .int .i64 tya, .slice A1' n1' c1', .slice A2' n2' c2', .slice A3' n3' c3'] 28)) (w.heap.size + 1) ⟨ia, pa, qa, ra, sa, ta, da, nma, tya⟩ (.slice A1' n1' c1') (.slice A2' n2' c2') (.slice A3' n3' c3')) := mx_of (h := ⟨ia, pa, qa, ra, sa, ta, da, nma, tya⟩) (x := .slice A1' n1' c1') (y := .slice A2' n2' c2') (z := .slice A3' n3' c3') at2
  go_enter Tryz.func16, Tryz.ntmps16
  go_wp2_with fail
  refine (D1.out _ L0.out).mono ?_
  rintro e w1 ⟨rfl, hl⟩
  have L1 := Lib.hid (L0.out.trans (hl.mono L0.out.size))
  have X1 := Lib.hid (X0.out.below hl)
  have Y1 := Lib.hid (Y0.out.below hl)
  clear hl L0 X0 Y0 
  obtain ⟨x0, x1, x2, x3, x4, x5, x6, x7, x8, x9, x10, x11⟩ := X1.out
  obtain ⟨y0, y1, y2, y3, y4, y5, y6, y7, y8, y9, y10, y11⟩ := Y1.out
  go_wp2_with fail
  refine (D2.out _ L1.out).mono ?_
  rintro e w2 ⟨rfl, hl⟩
  have L2 := Lib.hid (L1.out.trans (hl.mono L1.out.size))
  have X2 := Lib.hid (X1.out.below hl)
  have Y2 := Lib.hid (Y1.out.below hl)
  clear hl L1 X1 Y1 x0 x1 x2 x3 x4 x5 x6 x7 x8 x9 x10 x11 y0 y1 y2 y3 y4 y5 y6 y7 y8 y9 y10 y11
  go_wp2
  go_ret
  exact ⟨rfl, L2.out⟩

end Go.Proofs.YtkfibepejlgniaaGreatDoor.SamI

/- Some ways of sameMsg. -/
namespace Go.Proofs.YtkfibepejlgniaaGreatDoor.SamJ
open Go.RowKit Go.Proofs.YtkfibepejlgniaaGreatDoor.Mem Go.Proofs.YtkfibepejlgniaaGreatDoor.MemR Go.Proofs.YtkfibepejlgniaaGreatDoor.BoxR Go.Proofs.YtkfibepejlgniaaGreatDoor.MemM Go.Proofs.YtkfibepejlgniaaGreatDoor.ResM Go.Proofs.YtkfibepejlgniaaGreatDoor.SameR Go.Proofs.YtkfibepejlgniaaGreatDoor.SamM

set_option maxRecDepth 100000 in
set_option maxHeartbeats 8000000 in
theorem lw_r3 (ia : Int) (pa : Bool) (qa : Bool) (ra : Bool) (sa : Bool) (ta : Bool) (da : Int) (nma : ByteArray) (tya : Int) (A1 A1' : Option Addr) (n1 n1' c1 c1' : Nat) (A2 A2' : Option Addr) (n2 n2' c2 c2' : Nat) (A3 A3' : Option Addr) (n3 n3' c3 c3' : Nat) (w : World) (u : Bool) (C1 : ∀ W : World, Below w.heap.size w W → Calls Tryz.prog 61 #[.slice A1 n1 c1, .slice A1' n1' c1'] W fun e w' => e = .returned (.bool true) ∧ Below W.heap.size W w') (C2 : ∀ W : World, Below w.heap.size w W → Calls Tryz.prog 61 #[.slice A2 n2 c2, .slice A2' n2' c2'] W fun e w' => e = .returned (.bool true) ∧ Below W.heap.size W w') (C3 : ∀ W : World, Below w.heap.size w W → Calls Tryz.prog 61 #[.slice A3 n3 c3, .slice A3' n3' c3'] W fun e w' => e = .returned (.bool u) ∧ Below W.heap.size W w') : Calls Tryz.prog 16 #[.agg #[.int .i64 ia, .bool pa, .bool qa, .bool ra, .bool sa, .bool ta, .int .i64 da, .string nma, .int .i64 tya, .slice A1 n1 c1, .slice A2 n2 c2, .slice A3 n3 c3], .agg #[.int .i64 ia, .bool pa, .bool qa, .bool ra, .bool sa, .bool ta, .int .i64 da, .string nma, .int .i64 tya, .slice A1' n1' c1', .slice A2' n2' c2', .slice A3' n3' c3']] w fun e w' => e = .returned (.bool u) ∧ Below w.heap.size w w' := by
  have hg := grdQ
  have hqs := eqlQ_same nma tya
  have D1 := Lib.hid C1
  have D2 := Lib.hid C2
  have D3 := Lib.hid C3
  clear C1 C2 C3
  have L0 := Lib.hid (((Below.refl w.heap.size w).alloc (Nat.le_refl _) (.cells #[.int .i64 ia, .bool pa, .bool qa, .bool ra, .bool sa, .bool ta, .int .i64 da, .string nma, .int .i64 tya, .slice A1 n1 c1, .slice A2 n2 c2, .slice A3 n3 c3] 28)).alloc (by simp) (.cells #[.int .i64 ia, .bool pa, .bool qa, .bool ra, .bool sa, .bool ta, .int .i64 da, .string nma, .int .i64 tya, .slice A1' n1' c1', .slice A2' n2' c2', .slice A3' n3' c3'] 28))
  have X0 : Hid (Mx ((w.alloc (.cells #[.int .i64 ia, .bool pa, .bool qa, .bool ra, .bool sa, .bool ta, .int .i64 da, .string nma, .int .i64 tya, .slice A1 n1 c1, .slice A2 n2 c2, .slice A3 n3 c3] 28)).alloc (.cells #[.int .i64 ia, .bool pa, .bool qa, .bool ra, .bool sa, .bool ta, .int .i64 da, .string nma, .int .i64 tya, .slice A1' n1' c1', .slice A2' n2' c2', .slice A3' n3' c3'] 28)) w.heap.size ⟨ia, pa, qa, ra, sa, ta, da, nma, tya⟩ (.slice A1 n1 c1) (.slice A2 n2 c2) (.slice A3 n3 c3)) := (mx_new w 28 ⟨ia, pa, qa, ra, sa, ta, da, nma, tya⟩ (.slice A1 n1 c1) (.slice A2 n2 c2) (.slice A3 n3 c3)).alloc _
  have Y0 : Hid (Mx ((w.alloc (.cells #[.int .i64 ia, .bool pa, .bool qa, .bool ra, .bool sa, .bool ta, .int .i64 da, .string nma, .int .i64 tya, .slice A1 n1 c1, .slice A2 n2 c2, .slice A3 n3 c3] 28)).alloc (.cells #[.int .i64 ia, .bool pa, .bool qa, .bool ra, .bool sa, .bool ta, .int .i64 da, .string nma, .int .i64 tya, .slice A1' n1' c1', .slice A2' n2' c2', .slice A3' n3' c3'] 28)) (w.heap.size + 1) ⟨ia, pa, qa, ra, sa, ta, da, nma, tya⟩ (.slice A1' n1' c1') (.slice A2' n2' c2') (.slice A3' n3' c3')) := mx_of (h := ⟨ia, pa, qa, ra, sa, ta, da, nma, tya⟩) (x := .slice A1' n1' c1') (y := .slice A2' n2' c2') (z := .slice A3' n3' c3') at2
  go_enter Tryz.func16, Tryz.ntmps16
  go_wp2_with fail
  refine (D1.out _ L0.out).mono ?_
  rintro e w1 ⟨rfl, hl⟩
  have L1 := Lib.hid (L0.out.trans (hl.mono L0.out.size))
  have X1 := Lib.hid (X0.out.below hl)
  have Y1 := Lib.hid (Y0.out.below hl)
  clear hl L0 X0 Y0 
  obtain ⟨x0, x1, x2, x3, x4, x5, x6, x7, x8, x9, x10, x11⟩ := X1.out
  obtain ⟨y0, y1, y2, y3, y4, y5, y6, y7, y8, y9, y10, y11⟩ := Y1.out
  go_wp2_with fail
  refine (D2.out _ L1.out).mono ?_
  rintro e w2 ⟨rfl, hl⟩
  have L2 := Lib.hid (L1.out.trans (hl.mono L1.out.size))
  have X2 := Lib.hid (X1.out.below hl)
  have Y2 := Lib.hid (Y1.out.below hl)
  clear hl L1 X1 Y1 x0 x1 x2 x3 x4 x5 x6 x7 x8 x9 x10 x11 y0 y1 y2 y3 y4 y5 y6 y7 y8 y9 y10 y11
  obtain ⟨x0, x1, x2, x3, x4, x5, x6, x7, x8, x9, x10, x11⟩ := X2.out
  obtain ⟨y0, y1, y2, y3, y4, y5, y6, y7, y8, y9, y10, y11⟩ := Y2.out
  go_wp2_with fail
  refine (D3.out _ L2.out).mono ?_
  rintro e w3 ⟨rfl, hl⟩
  have L3 := Lib.hid (L2.out.trans (hl.mono L2.out.size))
  have X3 := Lib.hid (X2.out.below hl)
  have Y3 := Lib.hid (Y2.out.below hl)
  clear hl L2 X2 Y2 x0 x1 x2 x3 x4 x5 x6 x7 x8 x9 x10 x11 y0 y1 y2 y3 y4 y5 y6 y7 y8 y9 y10 y11
  go_wp2
  go_ret
  exact ⟨rfl, L3.out⟩

end Go.Proofs.YtkfibepejlgniaaGreatDoor.SamJ

/- What sameMsg does, put together of its ways. -/
namespace Go.Proofs.YtkfibepejlgniaaGreatDoor.SamL
open Go.RowKit Go.Proofs.YtkfibepejlgniaaGreatDoor.Mem Go.Proofs.YtkfibepejlgniaaGreatDoor.MemR Go.Proofs.YtkfibepejlgniaaGreatDoor.BoxR Go.Proofs.YtkfibepejlgniaaGreatDoor.MemM Go.Proofs.YtkfibepejlgniaaGreatDoor.ResM Go.Proofs.YtkfibepejlgniaaGreatDoor.SameR Go.Proofs.YtkfibepejlgniaaGreatDoor.SamM Go.Proofs.YtkfibepejlgniaaGreatDoor.SamF Go.Proofs.YtkfibepejlgniaaGreatDoor.SamG Go.Proofs.YtkfibepejlgniaaGreatDoor.SamH Go.Proofs.YtkfibepejlgniaaGreatDoor.SamI Go.Proofs.YtkfibepejlgniaaGreatDoor.SamJ

theorem same (h k : Hd) (A1 A1' : Option Addr) (n1 n1' c1 c1' : Nat) (l1 m1 : List Rec) (A2 A2' : Option Addr) (n2 n2' c2 c2' : Nat) (l2 m2 : List Rec) (A3 A3' : Option Addr) (n3 n3' c3 c3' : Nat) (l3 m3 : List Rec) (w : World) (e1 : Sr w w.heap.size A1 n1 l1) (g1 : Sr w w.heap.size A1' n1' m1) (b1 : n1 ≤ 400000000) (b1' : n1' ≤ 400000000) (e2 : Sr w w.heap.size A2 n2 l2) (g2 : Sr w w.heap.size A2' n2' m2) (b2 : n2 ≤ 400000000) (b2' : n2' ≤ 400000000) (e3 : Sr w w.heap.size A3 n3 l3) (g3 : Sr w w.heap.size A3' n3' m3) (b3 : n3 ≤ 400000000) (b3' : n3' ≤ 400000000) : Calls Tryz.prog 16 #[.agg #[.int .i64 h.id, .bool h.rp, .bool h.au, .bool h.ct, .bool h.wa, .bool h.ca, .int .i64 h.code, .string h.qn, .int .i64 h.qt, .slice A1 n1 c1, .slice A2 n2 c2, .slice A3 n3 c3], .agg #[.int .i64 k.id, .bool k.rp, .bool k.au, .bool k.ct, .bool k.wa, .bool k.ca, .int .i64 k.code, .string k.qn, .int .i64 k.qt, .slice A1' n1' c1', .slice A2' n2' c2', .slice A3' n3' c3']] w fun e w' => e = .returned (.bool (smm h k l1 l2 l3 m1 m2 m3)) ∧ Below w.heap.size w w' := by
  obtain ⟨ia, pa, qa, ra, sa, ta, da, nma, tya⟩ := h
  obtain ⟨ib, pb, qb, rb, sb, tb, db, nmb, tyb⟩ := k
  dsimp only
  by_cases ce0 : ia = ib
  case neg =>
    rw [smm_h (fun e => ce0 e.1)]
    exact lw_f0 ia pa qa ra sa ta da nma tya ib pb qb rb sb tb db nmb tyb A1 A1' n1 n1' c1 c1' A2 A2' n2 n2' c2 c2' A3 A3' n3 n3' c3 c3' w ce0
  obtain rfl := ce0
  by_cases ce1 : pa = pb
  case neg =>
    rw [smm_h (fun e => ce1 e.2.1)]
    exact lw_f1 ia pa qa ra sa ta da nma tya pb qb rb sb tb db nmb tyb A1 A1' n1 n1' c1 c1' A2 A2' n2 n2' c2 c2' A3 A3' n3 n3' c3 c3' w ce1
  obtain rfl := ce1
  by_cases ce2 : qa = qb
  case neg =>
    rw [smm_h (fun e => ce2 e.2.2.1)]
    exact lw_f2 ia pa qa ra sa ta da nma tya qb rb sb tb db nmb tyb A1 A1' n1 n1' c1 c1' A2 A2' n2 n2' c2 c2' A3 A3' n3 n3' c3 c3' w ce2
  obtain rfl := ce2
  by_cases ce3 : ra = rb
  case neg =>
    rw [smm_h (fun e => ce3 e.2.2.2.1)]
    exact lw_f3 ia pa qa ra sa ta da nma tya rb sb tb db nmb tyb A1 A1' n1 n1' c1 c1' A2 A2' n2 n2' c2 c2' A3 A3' n3 n3' c3 c3' w ce3
  obtain rfl := ce3
  by_cases ce4 : sa = sb
  case neg =>
    rw [smm_h (fun e => ce4 e.2.2.2.2.1)]
    exact lw_f4 ia pa qa ra sa ta da nma tya sb tb db nmb tyb A1 A1' n1 n1' c1 c1' A2 A2' n2 n2' c2 c2' A3 A3' n3 n3' c3 c3' w ce4
  obtain rfl := ce4
  by_cases ce5 : ta = tb
  case neg =>
    rw [smm_h (fun e => ce5 e.2.2.2.2.2.1)]
    exact lw_f5 ia pa qa ra sa ta da nma tya tb db nmb tyb A1 A1' n1 n1' c1 c1' A2 A2' n2 n2' c2 c2' A3 A3' n3 n3' c3 c3' w ce5
  obtain rfl := ce5
  by_cases ce6 : da = db
  case neg =>
    rw [smm_h (fun e => ce6 e.2.2.2.2.2.2)]
    exact lw_f6 ia pa qa ra sa ta da nma tya db nmb tyb A1 A1' n1 n1' c1 c1' A2 A2' n2 n2' c2 c2' A3 A3' n3 n3' c3 c3' w ce6
  obtain rfl := ce6
  by_cases cq : nma = nmb ∧ tya = tyb
  case neg =>
    rw [smm_q cq]
    exact lw_f7 ia pa qa ra sa ta da nma tya nmb tyb A1 A1' n1 n1' c1 c1' A2 A2' n2 n2' c2 c2' A3 A3' n3 n3' c3 c3' w cq
  obtain ⟨rfl, rfl⟩ := cq
  rw [smm_r]
  have C1 : ∀ W : World, Below w.heap.size w W → Calls Tryz.prog 61 #[.slice A1 n1 c1, .slice A1' n1' c1'] W fun e w' => e = .returned (.bool (sm l1 m1)) ∧ Below W.heap.size W w' := fun W hW => SameR.recs A1 A1' n1 c1 n1' c1' l1 m1 W (e1.on hW) (g1.on hW) b1 b1'
  have C2 : ∀ W : World, Below w.heap.size w W → Calls Tryz.prog 61 #[.slice A2 n2 c2, .slice A2' n2' c2'] W fun e w' => e = .returned (.bool (sm l2 m2)) ∧ Below W.heap.size W w' := fun W hW => SameR.recs A2 A2' n2 c2 n2' c2' l2 m2 W (e2.on hW) (g2.on hW) b2 b2'
  have C3 : ∀ W : World, Below w.heap.size w W → Calls Tryz.prog 61 #[.slice A3 n3 c3, .slice A3' n3' c3'] W fun e w' => e = .returned (.bool (sm l3 m3)) ∧ Below W.heap.size W w' := fun W hW => SameR.recs A3 A3' n3 c3 n3' c3' l3 m3 W (e3.on hW) (g3.on hW) b3 b3'
  generalize sm l1 m1 = u1 at *
  generalize sm l2 m2 = u2 at *
  generalize sm l3 m3 = u3 at *
  cases u1
  · exact lw_r1 ia pa qa ra sa ta da nma tya A1 A1' n1 n1' c1 c1' A2 A2' n2 n2' c2 c2' A3 A3' n3 n3' c3 c3' w C1
  cases u2
  · exact lw_r2 ia pa qa ra sa ta da nma tya A1 A1' n1 n1' c1 c1' A2 A2' n2 n2' c2 c2' A3 A3' n3 n3' c3 c3' w C1 C2
  · exact lw_r3 ia pa qa ra sa ta da nma tya A1 A1' n1 n1' c1 c1' A2 A2' n2 n2' c2 c2' A3 A3' n3 n3' c3 c3' w u3 C1 C2 C3
end Go.Proofs.YtkfibepejlgniaaGreatDoor.SamL
