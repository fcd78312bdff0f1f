/- What AskMsg does in the program and in the model: a query with this Id and question and nothing else. No condition. -/
import Derived.Test.YtmabbeefeipnaaaGreatDoorServesP1
import Derived.Test.YtmabbeefeipnaaaGreatDoorServesP7
import Derived.Test.YtmabbeefeipnaaaGreatDoorServesP3
/- What SameMsg does in the program and in the model: whether two messages are equal in all fields and all records. Condition: fewer than 400000001 records in each section. -/
namespace Go.Proofs.YtmabbeefeipnaaaGreatDoor.SamM
open Go.RowKit Go.Proofs.YtmabbeefeipnaaaGreatDoor.Mem Go.Proofs.YtmabbeefeipnaaaGreatDoor.MemR Go.Proofs.YtmabbeefeipnaaaGreatDoor.BoxR Go.Proofs.YtmabbeefeipnaaaGreatDoor.MemM Go.Proofs.YtmabbeefeipnaaaGreatDoor.ResM Go.Proofs.YtmabbeefeipnaaaGreatDoor.SameR Go.Proofs.YtmabbeefeipnaaaGreatDoor.OfM

/-- Whether two messages are equal but for the records, field by field. -/
def hid7 (h k : Hd) : Prop := h.id = k.id ∧ h.rp = k.rp ∧ h.au = k.au ∧ h.ct = k.ct ∧ h.wa = k.wa ∧ h.ca = k.ca ∧ h.code = k.code
noncomputable def hm (h k : Hd) : Bool := @decide (hid7 h k) (Classical.propDecidable _)
noncomputable def qm (h k : Hd) : Bool := @decide (h.qn = k.qn ∧ h.qt = k.qt) (Classical.propDecidable _)
/-- Whether two messages are the same. A def, so that no step of a walk opens it. -/
noncomputable def smm (h k : Hd) (l1 l2 l3 m1 m2 m3 : List Rec) : Bool := hm h k && (qm h k && (sm l1 m1 && (sm l2 m2 && sm l3 m3)))
theorem hm_true {h k : Hd} (e : hid7 h k) : hm h k = true := @decide_eq_true _ (Classical.propDecidable _) e
theorem hm_false {h k : Hd} (e : ¬ hid7 h k) : hm h k = false := @decide_eq_false _ (Classical.propDecidable _) e
theorem qm_true {h k : Hd} (e : h.qn = k.qn ∧ h.qt = k.qt) : qm h k = true := @decide_eq_true _ (Classical.propDecidable _) e
theorem qm_false {h k : Hd} (e : ¬ (h.qn = k.qn ∧ h.qt = k.qt)) : qm h k = false := @decide_eq_false _ (Classical.propDecidable _) e

theorem neqH_same (h : Hd) (w : World) : Sem.run Tryz.prog (binOp .neq 61 (.agg #[.int .i64 h.id, .bool h.rp, .bool h.au, .bool h.ct, .bool h.wa, .bool h.ca, .int .i64 h.code]) (.agg #[.int .i64 h.id, .bool h.rp, .bool h.au, .bool h.ct, .bool h.wa, .bool h.ca, .int .i64 h.code])) w = .ok (.bool false) w := by
  have u3 := Tryz.underlying3
  have a3 := Tryz.isAgg3
  have z3 := Tryz.sizeOf3
  have u4 := Tryz.underlying4
  have a4 := Tryz.isAgg4
  have z4 := Tryz.sizeOf4
  have hS : Tryz.prog.underlying 61 = some (.struct (Tryz.prog.fieldsOf 61)) := by kernel_rfl
  have hp : Tryz.prog.stoodInHeld 61 = false := by kernel_rfl
  rw [run_neq_struct, show (10000 : Nat) = 9999 + 1 from rfl, run_equalIn_agg w 9999 61 _ _ hS hp]
  simp only [Program.fieldsOf, Tryz.underlying61]
  go_simp

theorem neqH_diff {h k : Hd} (e : ¬ hid7 h k) (w : World) : Sem.run Tryz.prog (binOp .neq 61 (.agg #[.int .i64 h.id, .bool h.rp, .bool h.au, .bool h.ct, .bool h.wa, .bool h.ca, .int .i64 h.code]) (.agg #[.int .i64 k.id, .bool k.rp, .bool k.au, .bool k.ct, .bool k.wa, .bool k.ca, .int .i64 k.code])) w = .ok (.bool true) w := by
  have u3 := Tryz.underlying3
  have a3 := Tryz.isAgg3
  have z3 := Tryz.sizeOf3
  have u4 := Tryz.underlying4
  have a4 := Tryz.isAgg4
  have z4 := Tryz.sizeOf4
  have hS : Tryz.prog.underlying 61 = some (.struct (Tryz.prog.fieldsOf 61)) := by kernel_rfl
  have hp : Tryz.prog.stoodInHeld 61 = false := by kernel_rfl
  rw [run_neq_struct, show (10000 : Nat) = 9999 + 1 from rfl, run_equalIn_agg w 9999 61 _ _ hS hp]
  simp only [Program.fieldsOf, Tryz.underlying61]
  obtain ⟨i1, p1, q1, r1, s1, t1, d1, _, _⟩ := h
  obtain ⟨i2, p2, q2, r2, s2, t2, d2, _, _⟩ := k
  unfold hid7 at e
  simp only at e ⊢
  by_cases c0 : i1 = i2
  · subst c0
    by_cases c1 : p1 = p2
    · subst c1
      by_cases c2 : q1 = q2
      · subst c2
        by_cases c3 : r1 = r2
        · subst c3
          by_cases c4 : s1 = s2
          · subst c4
            by_cases c5 : t1 = t2
            · subst c5
              by_cases c6 : d1 = d2
              · exact absurd ⟨rfl, rfl, rfl, rfl, rfl, rfl, c6⟩ e
              · go_simp
            · have k := beq_eq_false_iff_ne.2 c5
              go_simp
          · have k := beq_eq_false_iff_ne.2 c4
            go_simp
        · have k := beq_eq_false_iff_ne.2 c3
          go_simp
      · have k := beq_eq_false_iff_ne.2 c2
        go_simp
    · have k := beq_eq_false_iff_ne.2 c1
      go_simp
  · go_simp

theorem neqQ_same (s : ByteArray) (n : Int) (w : World) : Sem.run Tryz.prog (binOp .neq 28 (.agg #[.string s, .int .i64 n]) (.agg #[.string s, .int .i64 n])) w = .ok (.bool false) w := by
  have u3 := Tryz.underlying3
  have a3 := Tryz.isAgg3
  have z3 := Tryz.sizeOf3
  have u9 := Tryz.underlying9
  have a9 := Tryz.isAgg9
  have z9 := Tryz.sizeOf9
  have hS : Tryz.prog.underlying 28 = some (.struct (Tryz.prog.fieldsOf 28)) := by kernel_rfl
  have hp : Tryz.prog.stoodInHeld 28 = false := by kernel_rfl
  rw [run_neq_struct, show (10000 : Nat) = 9999 + 1 from rfl, run_equalIn_agg w 9999 28 _ _ hS hp]
  simp only [Program.fieldsOf, Tryz.underlying28]
  go_simp

theorem neqQ_diff {s t : ByteArray} {n m : Int} (e : ¬ (s = t ∧ n = m)) (w : World) : Sem.run Tryz.prog (binOp .neq 28 (.agg #[.string s, .int .i64 n]) (.agg #[.string t, .int .i64 m])) w = .ok (.bool true) w := by
  have u3 := Tryz.underlying3
  have a3 := Tryz.isAgg3
  have z3 := Tryz.sizeOf3
  have u9 := Tryz.underlying9
  have a9 := Tryz.isAgg9
  have z9 := Tryz.sizeOf9
  have hS : Tryz.prog.underlying 28 = some (.struct (Tryz.prog.fieldsOf 28)) := by kernel_rfl
  have hp : Tryz.prog.stoodInHeld 28 = false := by kernel_rfl
  rw [run_neq_struct, show (10000 : Nat) = 9999 + 1 from rfl, run_equalIn_agg w 9999 28 _ _ hS hp]
  simp only [Program.fieldsOf, Tryz.underlying28]
  by_cases c0 : s = t
  · subst c0
    by_cases c1 : n = m
    · exact absurd ⟨rfl, c1⟩ e
    · go_simp
  · have k := bytes_ne c0
    go_simp

theorem eqlQ_same (s : ByteArray) (n : Int) (w : World) : Sem.run Tryz.prog (binOp .eql 28 (.agg #[.string s, .int .i64 n]) (.agg #[.string s, .int .i64 n])) w = .ok (.bool true) w := by
  have u3 := Tryz.underlying3
  have a3 := Tryz.isAgg3
  have z3 := Tryz.sizeOf3
  have u9 := Tryz.underlying9
  have a9 := Tryz.isAgg9
  have z9 := Tryz.sizeOf9
  have hS : Tryz.prog.underlying 28 = some (.struct (Tryz.prog.fieldsOf 28)) := by kernel_rfl
  have hp : Tryz.prog.stoodInHeld 28 = false := by kernel_rfl
  rw [run_eql_struct, show (10000 : Nat) = 9999 + 1 from rfl, run_equalIn_agg w 9999 28 _ _ hS hp]
  simp only [Program.fieldsOf, Tryz.underlying28]
  go_simp

theorem eqlQ_diff {s t : ByteArray} {n m : Int} (e : ¬ (s = t ∧ n = m)) (w : World) : Sem.run Tryz.prog (binOp .eql 28 (.agg #[.string s, .int .i64 n]) (.agg #[.string t, .int .i64 m])) w = .ok (.bool false) w := by
  have u3 := Tryz.underlying3
  have a3 := Tryz.isAgg3
  have z3 := Tryz.sizeOf3
  have u9 := Tryz.underlying9
  have a9 := Tryz.isAgg9
  have z9 := Tryz.sizeOf9
  have hS : Tryz.prog.underlying 28 = some (.struct (Tryz.prog.fieldsOf 28)) := by kernel_rfl
  have hp : Tryz.prog.stoodInHeld 28 = false := by kernel_rfl
  rw [run_eql_struct, show (10000 : Nat) = 9999 + 1 from rfl, run_equalIn_agg w 9999 28 _ _ hS hp]
  simp only [Program.fieldsOf, Tryz.underlying28]
  by_cases c0 : s = t
  · subst c0
    by_cases c1 : n = m
    · exact absurd ⟨rfl, c1⟩ e
    · go_simp
  · have k := bytes_ne c0
    go_simp

theorem grdH : Tryz.prog.eqGuardType Tryz.prog.depth 61 = false := by kernel_rfl
theorem grdQ : Tryz.prog.eqGuardType Tryz.prog.depth 28 = false := by kernel_rfl

theorem smm_h {h k : Hd} {l1 l2 l3 m1 m2 m3 : List Rec} (e : ¬ hid7 h k) : smm h k l1 l2 l3 m1 m2 m3 = false := by rw [smm, hm_false e]; rfl
theorem smm_q {h k : Hd} {l1 l2 l3 m1 m2 m3 : List Rec} (e : ¬ (h.qn = k.qn ∧ h.qt = k.qt)) : smm h k l1 l2 l3 m1 m2 m3 = false := by rw [smm, qm_false e, Bool.false_and, Bool.and_false]
theorem smm_r {h : Hd} {l1 l2 l3 m1 m2 m3 : List Rec} : smm h h l1 l2 l3 m1 m2 m3 = (sm l1 m1 && (sm l2 m2 && sm l3 m3)) := by rw [smm, hm_true ⟨rfl, rfl, rfl, rfl, rfl, rfl, rfl⟩, qm_true ⟨rfl, rfl⟩]; rfl
end Go.Proofs.YtmabbeefeipnaaaGreatDoor.SamM

/- Some ways of sameMsg. -/
namespace Go.Proofs.YtmabbeefeipnaaaGreatDoor.SamF
open Go.RowKit Go.Proofs.YtmabbeefeipnaaaGreatDoor.Mem Go.Proofs.YtmabbeefeipnaaaGreatDoor.MemR Go.Proofs.YtmabbeefeipnaaaGreatDoor.BoxR Go.Proofs.YtmabbeefeipnaaaGreatDoor.MemM Go.Proofs.YtmabbeefeipnaaaGreatDoor.ResM Go.Proofs.YtmabbeefeipnaaaGreatDoor.SameR Go.Proofs.YtmabbeefeipnaaaGreatDoor.SamM

set_option maxRecDepth 100000 in
set_option maxHeartbeats 4000000 in
theorem lw_f0 (ia : Int) (pa : Bool) (qa : Bool) (ra : Bool) (sa : Bool) (ta : Bool) (da : Int) (nma : ByteArray) (tya : Int) (ib : Int) (pb : Bool) (qb : Bool) (rb : Bool) (sb : Bool) (tb : Bool) (db : Int) (nmb : ByteArray) (tyb : Int) (A1 A1' : Option Addr) (n1 n1' c1 c1' : Nat) (A2 A2' : Option Addr) (n2 n2' c2 c2' : Nat) (A3 A3' : Option Addr) (n3 n3' c3 c3' : Nat) (w : World) (c : ¬ ia = ib) : Calls Tryz.prog 11 #[.agg #[.int .i64 ia, .bool pa, .bool qa, .bool ra, .bool sa, .bool ta, .int .i64 da, .string nma, .int .i64 tya, .slice A1 n1 c1, .slice A2 n2 c2, .slice A3 n3 c3], .agg #[.int .i64 ib, .bool pb, .bool qb, .bool rb, .bool sb, .bool tb, .int .i64 db, .string nmb, .int .i64 tyb, .slice A1' n1' c1', .slice A2' n2' c2', .slice A3' n3' c3']] w fun e w' => e = .returned (.bool false) ∧ Below w.heap.size w w' := by
  have kk := beq_eq_false_iff_ne.2 c
  go_enter Tryz.func11, Tryz.ntmps11
  go_wp2
  go_ret
  exact ⟨rfl, ((Below.refl _ _).alloc (Nat.le_refl _) _).alloc (by simp) _⟩

set_option maxRecDepth 100000 in
set_option maxHeartbeats 4000000 in
theorem lw_f1 (ia : Int) (pa : Bool) (qa : Bool) (ra : Bool) (sa : Bool) (ta : Bool) (da : Int) (nma : ByteArray) (tya : Int) (pb : Bool) (qb : Bool) (rb : Bool) (sb : Bool) (tb : Bool) (db : Int) (nmb : ByteArray) (tyb : Int) (A1 A1' : Option Addr) (n1 n1' c1 c1' : Nat) (A2 A2' : Option Addr) (n2 n2' c2 c2' : Nat) (A3 A3' : Option Addr) (n3 n3' c3 c3' : Nat) (w : World) (c : ¬ pa = pb) : Calls Tryz.prog 11 #[.agg #[.int .i64 ia, .bool pa, .bool qa, .bool ra, .bool sa, .bool ta, .int .i64 da, .string nma, .int .i64 tya, .slice A1 n1 c1, .slice A2 n2 c2, .slice A3 n3 c3], .agg #[.int .i64 ia, .bool pb, .bool qb, .bool rb, .bool sb, .bool tb, .int .i64 db, .string nmb, .int .i64 tyb, .slice A1' n1' c1', .slice A2' n2' c2', .slice A3' n3' c3']] w fun e w' => e = .returned (.bool false) ∧ Below w.heap.size w w' := by
  have kk := beq_eq_false_iff_ne.2 c
  go_enter Tryz.func11, Tryz.ntmps11
  go_wp2
  go_ret
  exact ⟨rfl, ((Below.refl _ _).alloc (Nat.le_refl _) _).alloc (by simp) _⟩

set_option maxRecDepth 100000 in
set_option maxHeartbeats 4000000 in
theorem lw_f2 (ia : Int) (pa : Bool) (qa : Bool) (ra : Bool) (sa : Bool) (ta : Bool) (da : Int) (nma : ByteArray) (tya : Int) (qb : Bool) (rb : Bool) (sb : Bool) (tb : Bool) (db : Int) (nmb : ByteArray) (tyb : Int) (A1 A1' : Option Addr) (n1 n1' c1 c1' : Nat) (A2 A2' : Option Addr) (n2 n2' c2 c2' : Nat) (A3 A3' : Option Addr) (n3 n3' c3 c3' : Nat) (w : World) (c : ¬ qa = qb) : Calls Tryz.prog 11 #[.agg #[.int .i64 ia, .bool pa, .bool qa, .bool ra, .bool sa, .bool ta, .int .i64 da, .string nma, .int .i64 tya, .slice A1 n1 c1, .slice A2 n2 c2, .slice A3 n3 c3], .agg #[.int .i64 ia, .bool pa, .bool qb, .bool rb, .bool sb, .bool tb, .int .i64 db, .string nmb, .int .i64 tyb, .slice A1' n1' c1', .slice A2' n2' c2', .slice A3' n3' c3']] w fun e w' => e = .returned (.bool false) ∧ Below w.heap.size w w' := by
  have kk := beq_eq_false_iff_ne.2 c
  go_enter Tryz.func11, Tryz.ntmps11
  go_wp2
  go_ret
  exact ⟨rfl, ((Below.refl _ _).alloc (Nat.le_refl _) _).alloc (by simp) _⟩

end Go.Proofs.YtmabbeefeipnaaaGreatDoor.SamF

/- Some ways of sameMsg. -/
namespace Go.Proofs.YtmabbeefeipnaaaGreatDoor.SamG
open Go.RowKit Go.Proofs.YtmabbeefeipnaaaGreatDoor.Mem Go.Proofs.YtmabbeefeipnaaaGreatDoor.MemR Go.Proofs.YtmabbeefeipnaaaGreatDoor.BoxR Go.Proofs.YtmabbeefeipnaaaGreatDoor.MemM Go.Proofs.YtmabbeefeipnaaaGreatDoor.ResM Go.Proofs.YtmabbeefeipnaaaGreatDoor.SameR Go.Proofs.YtmabbeefeipnaaaGreatDoor.SamM

set_option maxRecDepth 100000 in
set_option maxHeartbeats 4000000 in
theorem lw_f3 (ia : Int) (pa : Bool) (qa : Bool) (ra : Bool) (sa : Bool) (ta : Bool) (da : Int) (nma : ByteArray) (tya : Int) (rb : Bool) (sb : Bool) (tb : Bool) (db : Int) (nmb : ByteArray) (tyb : Int) (A1 A1' : Option Addr) (n1 n1' c1 c1' : Nat) (A2 A2' : Option Addr) (n2 n2' c2 c2' : Nat) (A3 A3' : Option Addr) (n3 n3' c3 c3' : Nat) (w : World) (c : ¬ ra = rb) : Calls Tryz.prog 11 #[.agg #[.int .i64 ia, .bool pa, .bool qa, .bool ra, .bool sa, .bool ta, .int .i64 da, .string nma, .int .i64 tya, .slice A1 n1 c1, .slice A2 n2 c2, .slice A3 n3 c3], .agg #[.int .i64 ia, .bool pa, .bool qa, .bool rb, .bool sb, .bool tb, .int .i64 db, .string nmb, .int .i64 tyb, .slice A1' n1' c1', .slice A2' n2' c2', .slice A3' n3' c3']] w fun e w' => e = .returned (.bool false) ∧ Below w.heap.size w w' := by
  have kk := beq_eq_false_iff_ne.2 c
  go_enter Tryz.func11, Tryz.ntmps11
  go_wp2
  go_ret
  exact ⟨rfl, ((Below.refl _ _).alloc (Nat.le_refl _) _).alloc (by simp) _⟩

set_option maxRecDepth 100000 in
set_option maxHeartbeats 4000000 in
theorem lw_f4 (ia : Int) (pa : Bool) (qa : Bool) (ra : Bool) (sa : Bool) (ta : Bool) (da : Int) (nma : ByteArray) (tya : Int) (sb : Bool) (tb : Bool) (db : Int) (nmb : ByteArray) (tyb : Int) (A1 A1' : Option Addr) (n1 n1' c1 c1' : Nat) (A2 A2' : Option Addr) (n2 n2' c2 c2' : Nat) (A3 A3' : Option Addr) (n3 n3' c3 c3' : Nat) (w : World) (c : ¬ sa = sb) : Calls Tryz.prog 11 #[.agg #[.int .i64 ia, .bool pa, .bool qa, .bool ra, .bool sa, .bool ta, .int .i64 da, .string nma, .int .i64 tya, .slice A1 n1 c1, .slice A2 n2 c2, .slice A3 n3 c3], .agg #[.int .i64 ia, .bool pa, .bool qa, .bool ra, .bool sb, .bool tb, .int .i64 db, .string nmb, .int .i64 tyb, .slice A1' n1' c1', .slice A2' n2' c2', .slice A3' n3' c3']] w fun e w' => e = .returned (.bool false) ∧ Below w.heap.size w w' := by
  have kk := beq_eq_false_iff_ne.2 c
  go_enter Tryz.func11, Tryz.ntmps11
  go_wp2
  go_ret
  exact ⟨rfl, ((Below.refl _ _).alloc (Nat.le_refl _) _).alloc (by simp) _⟩

set_option maxRecDepth 100000 in
set_option maxHeartbeats 4000000 in
theorem lw_f5 (ia : Int) (pa : Bool) (qa : Bool) (ra : Bool) (sa : Bool) (ta : Bool) (da : Int) (nma : ByteArray) (tya : Int) (tb : Bool) (db : Int) (nmb : ByteArray) (tyb : Int) (A1 A1' : Option Addr) (n1 n1' c1 c1' : Nat) (A2 A2' : Option Addr) (n2 n2' c2 c2' : Nat) (A3 A3' : Option Addr) (n3 n3' c3 c3' : Nat) (w : World) (c : ¬ ta = tb) : Calls Tryz.prog 11 #[.agg #[.int .i64 ia, .bool pa, .bool qa, .bool ra, .bool sa, .bool ta, .int .i64 da, .string nma, .int .i64 tya, .slice A1 n1 c1, .slice A2 n2 c2, .slice A3 n3 c3], .agg #[.int .i64 ia, .bool pa, .bool qa, .bool ra, .bool sa, .bool tb, .int .i64 db, .string nmb, .int .i64 tyb, .slice A1' n1' c1', .slice A2' n2' c2', .slice A3' n3' c3']] w fun e w' => e = .returned (.bool false) ∧ Below w.heap.size w w' := by
  have kk := beq_eq_false_iff_ne.2 c
  go_enter Tryz.func11, Tryz.ntmps11
  go_wp2
  go_ret
  exact ⟨rfl, ((Below.refl _ _).alloc (Nat.le_refl _) _).alloc (by simp) _⟩

end Go.Proofs.YtmabbeefeipnaaaGreatDoor.SamG

/- Some ways of sameMsg. -/
namespace Go.Proofs.YtmabbeefeipnaaaGreatDoor.SamH
open Go.RowKit Go.Proofs.YtmabbeefeipnaaaGreatDoor.Mem Go.Proofs.YtmabbeefeipnaaaGreatDoor.MemR Go.Proofs.YtmabbeefeipnaaaGreatDoor.BoxR Go.Proofs.YtmabbeefeipnaaaGreatDoor.MemM Go.Proofs.YtmabbeefeipnaaaGreatDoor.ResM Go.Proofs.YtmabbeefeipnaaaGreatDoor.SameR Go.Proofs.YtmabbeefeipnaaaGreatDoor.SamM

set_option maxRecDepth 100000 in
set_option maxHeartbeats 4000000 in
theorem lw_f6 (ia : Int) (pa : Bool) (qa : Bool) (ra : Bool) (sa : Bool) (ta : Bool) (da : Int) (nma : ByteArray) (tya : Int) (db : Int) (nmb : ByteArray) (tyb : Int) (A1 A1' : Option Addr) (n1 n1' c1 c1' : Nat) (A2 A2' : Option Addr) (n2 n2' c2 c2' : Nat) (A3 A3' : Option Addr) (n3 n3' c3 c3' : Nat) (w : World) (c : ¬ da = db) : Calls Tryz.prog 11 #[.agg #[.int .i64 ia, .bool pa, .bool qa, .bool ra, .bool sa, .bool ta, .int .i64 da, .string nma, .int .i64 tya, .slice A1 n1 c1, .slice A2 n2 c2, .slice A3 n3 c3], .agg #[.int .i64 ia, .bool pa, .bool qa, .bool ra, .bool sa, .bool ta, .int .i64 db, .string nmb, .int .i64 tyb, .slice A1' n1' c1', .slice A2' n2' c2', .slice A3' n3' c3']] w fun e w' => e = .returned (.bool false) ∧ Below w.heap.size w w' := by
  have kk := beq_eq_false_iff_ne.2 c
  go_enter Tryz.func11, Tryz.ntmps11
  go_wp2
  go_ret
  exact ⟨rfl, ((Below.refl _ _).alloc (Nat.le_refl _) _).alloc (by simp) _⟩

set_option maxRecDepth 100000 in
set_option maxHeartbeats 4000000 in
theorem lw_f7 (ia : Int) (pa : Bool) (qa : Bool) (ra : Bool) (sa : Bool) (ta : Bool) (da : Int) (nma : ByteArray) (tya : Int) (nmb : ByteArray) (tyb : Int) (A1 A1' : Option Addr) (n1 n1' c1 c1' : Nat) (A2 A2' : Option Addr) (n2 n2' c2 c2' : Nat) (A3 A3' : Option Addr) (n3 n3' c3 c3' : Nat) (w : World) (c : ¬ (nma = nmb ∧ tya = tyb)) : Calls Tryz.prog 11 #[.agg #[.int .i64 ia, .bool pa, .bool qa, .bool ra, .bool sa, .bool ta, .int .i64 da, .string nma, .int .i64 tya, .slice A1 n1 c1, .slice A2 n2 c2, .slice A3 n3 c3], .agg #[.int .i64 ia, .bool pa, .bool qa, .bool ra, .bool sa, .bool ta, .int .i64 da, .string nmb, .int .i64 tyb, .slice A1' n1' c1', .slice A2' n2' c2', .slice A3' n3' c3']] w fun e w' => e = .returned (.bool false) ∧ Below w.heap.size w w' := by
  have kk := eqlQ_diff c
  have hg := grdQ
  clear c
  go_enter Tryz.func11, Tryz.ntmps11
  go_wp2
  go_ret
  exact ⟨rfl, ((Below.refl _ _).alloc (Nat.le_refl _) _).alloc (by simp) _⟩

end Go.Proofs.YtmabbeefeipnaaaGreatDoor.SamH

/- Some ways of sameMsg. -/
namespace Go.Proofs.YtmabbeefeipnaaaGreatDoor.SamI
open Go.RowKit Go.Proofs.YtmabbeefeipnaaaGreatDoor.Mem Go.Proofs.YtmabbeefeipnaaaGreatDoor.MemR Go.Proofs.YtmabbeefeipnaaaGreatDoor.BoxR Go.Proofs.YtmabbeefeipnaaaGreatDoor.MemM Go.Proofs.YtmabbeefeipnaaaGreatDoor.ResM Go.Proofs.YtmabbeefeipnaaaGreatDoor.SameR Go.Proofs.YtmabbeefeipnaaaGreatDoor.SamM

set_option maxRecDepth 100000 in
set_option maxHeartbeats 8000000 in
theorem lw_r1 (ia : Int) (pa : Bool) (qa : Bool) (ra : Bool) (sa : Bool) (ta : Bool) (da : Int) (nma : ByteArray) (tya : Int) (A1 A1' : Option Addr) (n1 n1' c1 c1' : Nat) (A2 A2' : Option Addr) (n2 n2' c2 c2' : Nat) (A3 A3' : Option Addr) (n3 n3' c3 c3' : Nat) (w : World) (C1 : ∀ W : World, Below w.heap.size w W → Calls Tryz.prog 29 #[.slice A1 n1 c1, .slice A1' n1' c1'] W fun e w' => e = .returned (.bool false) ∧ Below W.heap.size W w') : Calls Tryz.prog 11 #[.agg #[.int .i64 ia, .bool pa, .bool qa, .bool ra, .bool sa, .bool ta, .int .i64 da, .string nma, .int .i64 tya, .slice A1 n1 c1, .slice A2 n2 c2, .slice A3 n3 c3], .agg #[.int .i64 ia, .bool pa, .bool qa, .bool ra, .bool sa, .bool ta, .int .i64 da, .string nma, .int .i64 tya, .slice A1' n1' c1', .slice A2' n2' c2', .slice A3' n3' c3']] w fun e w' => e = .returned (.bool false) ∧ Below w.heap.size w w' := by
  have hg := grdQ
  have hqs := eqlQ_same nma tya
  have D1 := Lib.hid C1
  clear C1
  have L0 := Lib.hid (((Below.refl w.heap.size w).alloc (Nat.le_refl _) (.cells #[.int .i64 ia, .bool pa, .bool qa, .bool ra, .bool sa, .bool ta, .int .i64 da, .string nma, .int .i64 tya, .slice A1 n1 c1, .slice A2 n2 c2, .slice A3 n3 c3] 32)).alloc (by simp) (.cells #[.int .i64 ia, .bool pa, .bool qa, .bool ra, .bool sa, .bool ta, .int .i64 da, .string nma, .int .i64 tya, .slice A1' n1' c1', .slice A2' n2' c2', .slice A3' n3' c3'] 32))
  have X0 : Hid (Mx ((w.alloc (.cells #[.int .i64 ia, .bool pa, .bool qa, .bool ra, .bool sa, .bool ta, .int .i64 da, .string nma, .int .i64 tya, .slice A1 n1 c1, .slice A2 n2 c2, .slice A3 n3 c3] 32)).alloc (.cells #[.int .i64 ia, .bool pa, .bool qa, .bool ra, .bool sa, .bool ta, .int .i64 da, .string nma, .int .i64 tya, .slice A1' n1' c1', .slice A2' n2' c2', .slice A3' n3' c3'] 32)) w.heap.size ⟨ia, pa, qa, ra, sa, ta, da, nma, tya⟩ (.slice A1 n1 c1) (.slice A2 n2 c2) (.slice A3 n3 c3)) := (mx_new w 32 ⟨ia, pa, qa, ra, sa, ta, da, nma, tya⟩ (.slice A1 n1 c1) (.slice A2 n2 c2) (.slice A3 n3 c3)).alloc _
  have Y0 : Hid (Mx ((w.alloc (.cells #[.int .i64 ia, .bool pa, .bool qa, .bool ra, .bool sa, .bool ta, .int .i64 da, .string nma, .int .i64 tya, .slice A1 n1 c1, .slice A2 n2 c2, .slice A3 n3 c3] 32)).alloc (.cells #[.int .i64 ia, .bool pa, .bool qa, .bool ra, .bool sa, .bool ta, .int .i64 da, .string nma, .int .i64 tya, .slice A1' n1' c1', .slice A2' n2' c2', .slice A3' n3' c3'] 32)) (w.heap.size + 1) ⟨ia, pa, qa, ra, sa, ta, da, nma, tya⟩ (.slice A1' n1' c1') (.slice A2' n2' c2') (.slice A3' n3' c3')) := mx_of (h := ⟨ia, pa, qa, ra, sa, ta, da, nma, tya⟩) (x := .slice A1' n1' c1') (y := .slice A2' n2' c2') (z := .slice A3' n3' c3') at2
  go_enter Tryz.func11, Tryz.ntmps11
  go_wp2_with fail
  refine (D1.out _ L0.out).mono ?_
  rintro e w1 ⟨rfl, hl⟩
  have L1 := Lib.hid (L0.out.trans (hl.mono L0.out.size))
  have X1 := Lib.hid (X0.out.below hl)
  have Y1 := Lib.hid (Y0.out.below hl)
  clear hl L0 X0 Y0 
  go_wp2
  go_ret
  exact ⟨rfl, L1.out⟩

set_option maxRecDepth 100000 in
set_option maxHeartbeats 8000000 in
theorem lw_r2 (ia : Int) (pa : Bool) (qa : Bool) (ra : Bool) (sa : Bool) (ta : Bool) (da : Int) (nma : ByteArray) (tya : Int) (A1 A1' : Option Addr) (n1 n1' c1 c1' : Nat) (A2 A2' : Option Addr) (n2 n2' c2 c2' : Nat) (A3 A3' : Option Addr) (n3 n3' c3 c3' : Nat) (w : World) (C1 : ∀ W : World, Below w.heap.size w W → Calls Tryz.prog 29 #[.slice A1 n1 c1, .slice A1' n1' c1'] W fun e w' => e = .returned (.bool true) ∧ Below W.heap.size W w') (C2 : ∀ W : World, Below w.heap.size w W → Calls Tryz.prog 29 #[.slice A2 n2 c2, .slice A2' n2' c2'] W fun e w' => e = .returned (.bool false) ∧ Below W.heap.size W w') : Calls Tryz.prog 11 #[.agg #[.int .i64 ia, .bool pa, .bool qa, .bool ra, .bool sa, .bool ta, .int .i64 da, .string nma, .int .i64 tya, .slice A1 n1 c1, .slice A2 n2 c2, .slice A3 n3 c3], .agg #[.int .i64 ia, .bool pa, .bool qa, .bool ra, .bool sa, .bool ta, .int .i64 da, .string nma, .int .i64 tya, .slice A1' n1' c1', .slice A2' n2' c2', .slice A3' n3' c3']] w fun e w' => e = .returned (.bool false) ∧ Below w.heap.size w w' := by
  have hg := grdQ
  have hqs := eqlQ_same nma tya
  have D1 := Lib.hid C1
  have D2 := Lib.hid C2
  clear C1 C2
  have L0 := Lib.hid (((Below.refl w.heap.size w).alloc (Nat.le_refl _) (.cells #[.int .i64 ia, .bool pa, .bool qa, .bool ra, .bool sa, .bool ta, .int .i64 da, .string nma, .int .i64 tya, .slice A1 n1 c1, .slice A2 n2 c2, .slice A3 n3 c3] 32)).alloc (by simp) (.cells #[.int .i64 ia, .bool pa, .bool qa, .bool ra, .bool sa, .bool ta, .int .i64 da, .string nma, .int .i64 tya, .slice A1' n1' c1', .slice A2' n2' c2', .slice A3' n3' c3'] 32))
  have X0 : Hid (Mx ((w.alloc (.cells #[.int .i64 ia, .bool pa, .bool qa, .bool ra, .bool sa, .bool ta, .int .i64 da, .string nma, .int .i64 tya, .slice A1 n1 c1, .slice A2 n2 c2, .slice A3 n3 c3] 32)).alloc (.cells #[.int .i64 ia, .bool pa, .bool qa, .bool ra, .bool sa, .bool ta, .int .i64 da, .string nma, .int .i64 tya, .slice A1' n1' c1', .slice A2' n2' c2', .slice A3' n3' c3'] 32)) w.heap.size ⟨ia, pa, qa, ra, sa, ta, da, nma, tya⟩ (.slice A1 n1 c1) (.slice A2 n2 c2) (.slice A3 n3 c3)) := (mx_new w 32 ⟨ia, pa, qa, ra, sa, ta, da, nma, tya⟩ (.slice A1 n1 c1) (.slice A2 n2 c2) (.slice A3 n3 c3)).alloc _
  have Y0 : Hid (Mx ((w.alloc (.cells #[.int .i64 ia, .bool pa, .bool qa, .bool ra, .bool sa, .bool ta, .int .i64 da, .string nma, .int .i64 tya, .slice A1 n1 c1, .slice A2 n2 c2, .slice A3 n3 c3] 32)).alloc (.cells #[.int .i64 ia, .bool pa, .bool qa, .bool ra, .bool sa, .bool ta, .int .i64 da, .string nma, .int .i64 tya, .slice A1' n1' c1', .slice A2' n2' c2', .slice A3' n3' c3'] 32)) (w.heap.size + 1) ⟨ia, pa, qa, ra, sa, ta, da, nma, tya⟩ (.slice A1' n1' c1') (.slice A2' n2' c2') (.slice A3' n3' c3')) := mx_of (h := ⟨ia, pa, qa, ra, sa, ta, da, nma, tya⟩) (x := .slice A1' n1' c1') (y := .slice A2' n2' c2') (z := .slice A3' n3' c3') at2
  go_enter Tryz.func11, Tryz.ntmps11
  go_wp2_with fail
  refine (D1.out _ L0.out).mono ?_
  rintro e w1 ⟨rfl, hl⟩
  have L1 := Lib.hid (L0.out.trans (hl.mono L0.out.size))
  have X1 := Lib.hid (X0.out.below hl)
  have Y1 := Lib.hid (Y0.out.below hl)
  clear hl L0 X0 Y0 
  obtain ⟨x0, x1, x2, x3, x4, x5, x6, x7, x8, x9, x10, x11⟩ := X1.out
  obtain ⟨y0, y1, y2, y3, y4, y5, y6, y7, y8, y9, y10, y11⟩ := Y1.out
  go_wp2_with fail
  refine (D2.out _ L1.out).mono ?_
  rintro e w2 ⟨rfl, hl⟩
  have L2 := Lib.hid (L1.out.trans (hl.mono L1.out.size))
  have X2 := Lib.hid (X1.out.below hl)
  have Y2 := Lib.hid (Y1.out.below hl)
  clear hl L1 X1 Y1 x0 x1 x2 x3 x4 x5 x6 x7 x8 x9 x10 x11 y0 y1 y2 y3 y4 y5 y6 y7 y8 y9 y10 y11
  go_wp2
  go_ret
  exact ⟨rfl, L2.out⟩

end Go.Proofs.YtmabbeefeipnaaaGreatDoor.SamI

/- Some ways of sameMsg. -/
namespace Go.Proofs.YtmabbeefeipnaaaGreatDoor.SamJ
open Go.RowKit Go.Proofs.YtmabbeefeipnaaaGreatDoor.Mem Go.Proofs.YtmabbeefeipnaaaGreatDoor.MemR Go.Proofs.YtmabbeefeipnaaaGreatDoor.BoxR Go.Proofs.YtmabbeefeipnaaaGreatDoor.MemM Go.Proofs.YtmabbeefeipnaaaGreatDoor.ResM Go.Proofs.YtmabbeefeipnaaaGreatDoor.SameR Go.Proofs.YtmabbeefeipnaaaGreatDoor.SamM

set_option maxRecDepth 100000 in
set_option maxHeartbeats 8000000 in
theorem lw_r3 (ia : Int) (pa : Bool) (qa : Bool) (ra : Bool) (sa : Bool) (ta : Bool) (da : Int) (nma : ByteArray) (tya : Int) (A1 A1' : Option Addr) (n1 n1' c1 c1' : Nat) (A2 A2' : Option Addr) (n2 n2' c2 c2' : Nat) (A3 A3' : Option Addr) (n3 n3' c3 c3' : Nat) (w : World) (u : Bool) (C1 : ∀ W : World, Below w.heap.size w W → Calls Tryz.prog 29 #[.slice A1 n1 c1, .slice A1' n1' c1'] W fun e w' => e = .returned (.bool true) ∧ Below W.heap.size W w') (C2 : ∀ W : World, Below w.heap.size w W → Calls Tryz.prog 29 #[.slice A2 n2 c2, .slice A2' n2' c2'] W fun e w' => e = .returned (.bool true) ∧ Below W.heap.size W w') (C3 : ∀ W : World, Below w.heap.size w W → Calls Tryz.prog 29 #[.slice A3 n3 c3, .slice A3' n3' c3'] W fun e w' => e = .returned (.bool u) ∧ Below W.heap.size W w') : Calls Tryz.prog 11 #[.agg #[.int .i64 ia, .bool pa, .bool qa, .bool ra, .bool sa, .bool ta, .int .i64 da, .string nma, .int .i64 tya, .slice A1 n1 c1, .slice A2 n2 c2, .slice A3 n3 c3], .agg #[.int .i64 ia, .bool pa, .bool qa, .bool ra, .bool sa, .bool ta, .int .i64 da, .string nma, .int .i64 tya, .slice A1' n1' c1', .slice A2' n2' c2', .slice A3' n3' c3']] w fun e w' => e = .returned (.bool u) ∧ Below w.heap.size w w' := by
  have hg := grdQ
  have hqs := eqlQ_same nma tya
  have D1 := Lib.hid C1
  have D2 := Lib.hid C2
  have D3 := Lib.hid C3
  clear C1 C2 C3
  have L0 := Lib.hid (((Below.refl w.heap.size w).alloc (Nat.le_refl _) (.cells #[.int .i64 ia, .bool pa, .bool qa, .bool ra, .bool sa, .bool ta, .int .i64 da, .string nma, .int .i64 tya, .slice A1 n1 c1, .slice A2 n2 c2, .slice A3 n3 c3] 32)).alloc (by simp) (.cells #[.int .i64 ia, .bool pa, .bool qa, .bool ra, .bool sa, .bool ta, .int .i64 da, .string nma, .int .i64 tya, .slice A1' n1' c1', .slice A2' n2' c2', .slice A3' n3' c3'] 32))
  have X0 : Hid (Mx ((w.alloc (.cells #[.int .i64 ia, .bool pa, .bool qa, .bool ra, .bool sa, .bool ta, .int .i64 da, .string nma, .int .i64 tya, .slice A1 n1 c1, .slice A2 n2 c2, .slice A3 n3 c3] 32)).alloc (.cells #[.int .i64 ia, .bool pa, .bool qa, .bool ra, .bool sa, .bool ta, .int .i64 da, .string nma, .int .i64 tya, .slice A1' n1' c1', .slice A2' n2' c2', .slice A3' n3' c3'] 32)) w.heap.size ⟨ia, pa, qa, ra, sa, ta, da, nma, tya⟩ (.slice A1 n1 c1) (.slice A2 n2 c2) (.slice A3 n3 c3)) := (mx_new w 32 ⟨ia, pa, qa, ra, sa, ta, da, nma, tya⟩ (.slice A1 n1 c1) (.slice A2 n2 c2) (.slice A3 n3 c3)).alloc _
  have Y0 : Hid (Mx ((w.alloc (.cells #[.int .i64 ia, .bool pa, .bool qa, .bool ra, .bool sa, .bool ta, .int .i64 da, .string nma, .int .i64 tya, .slice A1 n1 c1, .slice A2 n2 c2, .slice A3 n3 c3] 32)).alloc (.cells #[.int .i64 ia, .bool pa, .bool qa, .bool ra, .bool sa, .bool ta, .int .i64 da, .string nma, .int .i64 tya, .slice A1' n1' c1', .slice A2' n2' c2', .slice A3' n3' c3'] 32)) (w.heap.size + 1) ⟨ia, pa, qa, ra, sa, ta, da, nma, tya⟩ (.slice A1' n1' c1') (.slice A2' n2' c2') (.slice A3' n3' c3')) := mx_of (h := ⟨ia, pa, qa, ra, sa, ta, da, nma, tya⟩) (x := .slice A1' n1' c1') (y := .slice A2' n2' c2') (z := .slice A3' n3' c3') at2
  go_enter Tryz.func11, Tryz.ntmps11
  go_wp2_with fail
  refine (D1.out _ L0.out).mono ?_
  rintro e w1 ⟨rfl, hl⟩
  have L1 := Lib.hid (L0.out.trans (hl.mono L0.out.size))
  have X1 := Lib.hid (X0.out.below hl)
  have Y1 := Lib.hid (Y0.out.below hl)
  clear hl L0 X0 Y0 
  obtain ⟨x0, x1, x2, x3, x4, x5, x6, x7, x8, x9, x10, x11⟩ := X1.out
  obtain ⟨y0, y1, y2, y3, y4, y5, y6, y7, y8, y9, y10, y11⟩ := Y1.out
  go_wp2_with fail
  refine (D2.out _ L1.out).mono ?_
  rintro e w2 ⟨rfl, hl⟩
  have L2 := Lib.hid (L1.out.trans (hl.mono L1.out.size))
  have X2 := Lib.hid (X1.out.below hl)
  have Y2 := Lib.hid (Y1.out.below hl)
  clear hl L1 X1 Y1 x0 x1 x2 x3 x4 x5 x6 x7 x8 x9 x10 x11 y0 y1 y2 y3 y4 y5 y6 y7 y8 y9 y10 y11
  obtain ⟨x0, x1, x2, x3, x4, x5, x6, x7, x8, x9, x10, x11⟩ := X2.out
  obtain ⟨y0, y1, y2, y3, y4, y5, y6, y7, y8, y9, y10, y11⟩ := Y2.out
  go_wp2_with fail
  refine (D3.out _ L2.out).mono ?_
  rintro e w3 ⟨rfl, hl⟩
  have L3 := Lib.hid (L2.out.trans (hl.mono L2.out.size))
  have X3 := Lib.hid (X2.out.below hl)
  have Y3 := Lib.hid (Y2.out.below hl)
  clear hl L2 X2 Y2 x0 x1 x2 x3 x4 x5 x6 x7 x8 x9 x10 x11 y0 y1 y2 y3 y4 y5 y6 y7 y8 y9 y10 y11
  go_wp2
  go_ret
  exact ⟨rfl, L3.out⟩

end Go.Proofs.YtmabbeefeipnaaaGreatDoor.SamJ

/- What sameMsg does, put together of its ways. -/
namespace Go.Proofs.YtmabbeefeipnaaaGreatDoor.SamL
open Go.RowKit Go.Proofs.YtmabbeefeipnaaaGreatDoor.Mem Go.Proofs.YtmabbeefeipnaaaGreatDoor.MemR Go.Proofs.YtmabbeefeipnaaaGreatDoor.BoxR Go.Proofs.YtmabbeefeipnaaaGreatDoor.MemM Go.Proofs.YtmabbeefeipnaaaGreatDoor.ResM Go.Proofs.YtmabbeefeipnaaaGreatDoor.SameR Go.Proofs.YtmabbeefeipnaaaGreatDoor.SamM Go.Proofs.YtmabbeefeipnaaaGreatDoor.SamF Go.Proofs.YtmabbeefeipnaaaGreatDoor.SamG Go.Proofs.YtmabbeefeipnaaaGreatDoor.SamH Go.Proofs.YtmabbeefeipnaaaGreatDoor.SamI Go.Proofs.YtmabbeefeipnaaaGreatDoor.SamJ

theorem same (h k : Hd) (A1 A1' : Option Addr) (n1 n1' c1 c1' : Nat) (l1 m1 : List Rec) (A2 A2' : Option Addr) (n2 n2' c2 c2' : Nat) (l2 m2 : List Rec) (A3 A3' : Option Addr) (n3 n3' c3 c3' : Nat) (l3 m3 : List Rec) (w : World) (e1 : Sr w w.heap.size A1 n1 l1) (g1 : Sr w w.heap.size A1' n1' m1) (b1 : n1 ≤ 400000000) (b1' : n1' ≤ 400000000) (e2 : Sr w w.heap.size A2 n2 l2) (g2 : Sr w w.heap.size A2' n2' m2) (b2 : n2 ≤ 400000000) (b2' : n2' ≤ 400000000) (e3 : Sr w w.heap.size A3 n3 l3) (g3 : Sr w w.heap.size A3' n3' m3) (b3 : n3 ≤ 400000000) (b3' : n3' ≤ 400000000) : Calls Tryz.prog 11 #[.agg #[.int .i64 h.id, .bool h.rp, .bool h.au, .bool h.ct, .bool h.wa, .bool h.ca, .int .i64 h.code, .string h.qn, .int .i64 h.qt, .slice A1 n1 c1, .slice A2 n2 c2, .slice A3 n3 c3], .agg #[.int .i64 k.id, .bool k.rp, .bool k.au, .bool k.ct, .bool k.wa, .bool k.ca, .int .i64 k.code, .string k.qn, .int .i64 k.qt, .slice A1' n1' c1', .slice A2' n2' c2', .slice A3' n3' c3']] w fun e w' => e = .returned (.bool (smm h k l1 l2 l3 m1 m2 m3)) ∧ Below w.heap.size w w' := by
  obtain ⟨ia, pa, qa, ra, sa, ta, da, nma, tya⟩ := h
  obtain ⟨ib, pb, qb, rb, sb, tb, db, nmb, tyb⟩ := k
  dsimp only
  by_cases ce0 : ia = ib
  case neg =>
    rw [smm_h (fun e => ce0 e.1)]
    exact lw_f0 ia pa qa ra sa ta da nma tya ib pb qb rb sb tb db nmb tyb A1 A1' n1 n1' c1 c1' A2 A2' n2 n2' c2 c2' A3 A3' n3 n3' c3 c3' w ce0
  obtain rfl := ce0
  by_cases ce1 : pa = pb
  case neg =>
    rw [smm_h (fun e => ce1 e.2.1)]
    exact lw_f1 ia pa qa ra sa ta da nma tya pb qb rb sb tb db nmb tyb A1 A1' n1 n1' c1 c1' A2 A2' n2 n2' c2 c2' A3 A3' n3 n3' c3 c3' w ce1
  obtain rfl := ce1
  by_cases ce2 : qa = qb
  case neg =>
    rw [smm_h (fun e => ce2 e.2.2.1)]
    exact lw_f2 ia pa qa ra sa ta da nma tya qb rb sb tb db nmb tyb A1 A1' n1 n1' c1 c1' A2 A2' n2 n2' c2 c2' A3 A3' n3 n3' c3 c3' w ce2
  obtain rfl := ce2
  by_cases ce3 : ra = rb
  case neg =>
    rw [smm_h (fun e => ce3 e.2.2.2.1)]
    exact lw_f3 ia pa qa ra sa ta da nma tya rb sb tb db nmb tyb A1 A1' n1 n1' c1 c1' A2 A2' n2 n2' c2 c2' A3 A3' n3 n3' c3 c3' w ce3
  obtain rfl := ce3
  by_cases ce4 : sa = sb
  case neg =>
    rw [smm_h (fun e => ce4 e.2.2.2.2.1)]
    exact lw_f4 ia pa qa ra sa ta da nma tya sb tb db nmb tyb A1 A1' n1 n1' c1 c1' A2 A2' n2 n2' c2 c2' A3 A3' n3 n3' c3 c3' w ce4
  obtain rfl := ce4
  by_cases ce5 : ta = tb
  case neg =>
    rw [smm_h (fun e => ce5 e.2.2.2.2.2.1)]
    exact lw_f5 ia pa qa ra sa ta da nma tya tb db nmb tyb A1 A1' n1 n1' c1 c1' A2 A2' n2 n2' c2 c2' A3 A3' n3 n3' c3 c3' w ce5
  obtain rfl := ce5
  by_cases ce6 : da = db
  case neg =>
    rw [smm_h (fun e => ce6 e.2.2.2.2.2.2)]
    exact lw_f6 ia pa qa ra sa ta da nma tya db nmb tyb A1 A1' n1 n1' c1 c1' A2 A2' n2 n2' c2 c2' A3 A3' n3 n3' c3 c3' w ce6
  obtain rfl := ce6
  by_cases cq : nma = nmb ∧ tya = tyb
  case neg =>
    rw [smm_q cq]
    exact lw_f7 ia pa qa ra sa ta da nma tya nmb tyb A1 A1' n1 n1' c1 c1' A2 A2' n2 n2' c2 c2' A3 A3' n3 n3' c3 c3' w cq
  obtain ⟨rfl, rfl⟩ := cq
  rw [smm_r]
  have C1 : ∀ W : World, Below w.heap.size w W → Calls Tryz.prog 29 #[.slice A1 n1 c1, .slice A1' n1' c1'] W fun e w' => e = .returned (.bool (sm l1 m1)) ∧ Below W.heap.size W w' := fun W hW => SameR.recs A1 A1' n1 c1 n1' c1' l1 m1 W (e1.on hW) (g1.on hW) b1 b1'
  have C2 : ∀ W : World, Below w.heap.size w W → Calls Tryz.prog 29 #[.slice A2 n2 c2, .slice A2' n2' c2'] W fun e w' => e = .returned (.bool (sm l2 m2)) ∧ Below W.heap.size W w' := fun W hW => SameR.recs A2 A2' n2 c2 n2' c2' l2 m2 W (e2.on hW) (g2.on hW) b2 b2'
  have C3 : ∀ W : World, Below w.heap.size w W → Calls Tryz.prog 29 #[.slice A3 n3 c3, .slice A3' n3' c3'] W fun e w' => e = .returned (.bool (sm l3 m3)) ∧ Below W.heap.size W w' := fun W hW => SameR.recs A3 A3' n3 c3 n3' c3' l3 m3 W (e3.on hW) (g3.on hW) b3 b3'
  generalize sm l1 m1 = u1 at *
  generalize sm l2 m2 = u2 at *
  generalize sm l3 m3 = u3 at *
  cases u1
  · exact lw_r1 ia pa qa ra sa ta da nma tya A1 A1' n1 n1' c1 c1' A2 A2' n2 n2' c2 c2' A3 A3' n3 n3' c3 c3' w C1
  cases u2
  · exact lw_r2 ia pa qa ra sa ta da nma tya A1 A1' n1 n1' c1 c1' A2 A2' n2 n2' c2 c2' A3 A3' n3 n3' c3 c3' w C1 C2
  · exact lw_r3 ia pa qa ra sa ta da nma tya A1 A1' n1 n1' c1 c1' A2 A2' n2 n2' c2 c2' A3 A3' n3 n3' c3 c3' w u3 C1 C2 C3
end Go.Proofs.YtmabbeefeipnaaaGreatDoor.SamL

/- What AskMsg does in the program and in the model: a query with this Id and question and nothing else. No condition. -/
namespace Go.Proofs.YtmabbeefeipnaaaGreatDoor.AskM
open Go.RowKit Go.Proofs.YtmabbeefeipnaaaGreatDoor.Mem Go.Proofs.YtmabbeefeipnaaaGreatDoor.MemR Go.Proofs.YtmabbeefeipnaaaGreatDoor.BoxR Go.Proofs.YtmabbeefeipnaaaGreatDoor.MemM Go.Proofs.YtmabbeefeipnaaaGreatDoor.ResM

/-- The head of a query. -/
def askh (id : Int) (s : ByteArray) (n : Int) : Hd := ⟨id, false, false, false, false, false, 0, s, n⟩

set_option maxHeartbeats 1000000 in
theorem impl (id : Int) (s : ByteArray) (n : Int) (w : World) : Calls Tryz.prog 6 #[.int .i64 id, .agg #[.string s, .int .i64 n]] w fun e w' => e = .returned (.agg #[.int .i64 (askh id s n).id, .bool (askh id s n).rp, .bool (askh id s n).au, .bool (askh id s n).ct, .bool (askh id s n).wa, .bool (askh id s n).ca, .int .i64 (askh id s n).code, .string (askh id s n).qn, .int .i64 (askh id s n).qt, .slice none 0 0, .slice none 0 0, .slice none 0 0]) ∧ Below w.heap.size w w' := by
  go_enter Tryz.func6, Tryz.ntmps6
  go_wp2
  refine bodyPost_ret (v := .agg #[.int .i64 (askh id s n).id, .bool (askh id s n).rp, .bool (askh id s n).au, .bool (askh id s n).ct, .bool (askh id s n).wa, .bool (askh id s n).ca, .int .i64 (askh id s n).code, .string (askh id s n).qn, .int .i64 (askh id s n).qt, .slice none 0 0, .slice none 0 0, .slice none 0 0]) (by simp [results, Tryz.results6, go_sem, askh]) rfl ⟨rfl, ?_⟩
  repeat (first | exact Below.refl _ _ | refine Below.setCell ?_ (by simp; try omega) _ | refine Below.alloc ?_ (by simp; try omega) _)

end Go.Proofs.YtmabbeefeipnaaaGreatDoor.AskM
