/- What SameMsg does in the program and in the model: whether two messages are equal in all fields and all records. Condition: fewer than 400000001 records in each section. -/
import Derived.Test.YtbjhkhmhmldjoaaSameR
import Derived.Test.YtbjhkhmhmldjoaaOfM
namespace Go.Proofs.Ytbjhkhmhmldjoaa.SamM
open Go.RowKit Go.Proofs.Ytbjhkhmhmldjoaa.Mem Go.Proofs.Ytbjhkhmhmldjoaa.MemR Go.Proofs.Ytbjhkhmhmldjoaa.BoxR Go.Proofs.Ytbjhkhmhmldjoaa.MemM Go.Proofs.Ytbjhkhmhmldjoaa.ResM Go.Proofs.Ytbjhkhmhmldjoaa.SameR Go.Proofs.Ytbjhkhmhmldjoaa.OfM

/-- Whether two messages are equal but for the records, field by field. -/
def hid7 (h k : Hd) : Prop := h.id = k.id ∧ h.rp = k.rp ∧ h.au = k.au ∧ h.ct = k.ct ∧ h.wa = k.wa ∧ h.ca = k.ca ∧ h.code = k.code
noncomputable def hm (h k : Hd) : Bool := @decide (hid7 h k) (Classical.propDecidable _)
noncomputable def qm (h k : Hd) : Bool := @decide (h.qn = k.qn ∧ h.qt = k.qt) (Classical.propDecidable _)
/-- Whether two messages are the same. A def, so that no step of a walk opens it. -/
noncomputable def smm (h k : Hd) (l1 l2 l3 m1 m2 m3 : List Rec) : Bool := hm h k && (qm h k && (sm l1 m1 && (sm l2 m2 && sm l3 m3)))
theorem hm_true {h k : Hd} (e : hid7 h k) : hm h k = true := @decide_eq_true _ (Classical.propDecidable _) e
theorem hm_false {h k : Hd} (e : ¬ hid7 h k) : hm h k = false := @decide_eq_false _ (Classical.propDecidable _) e
theorem qm_true {h k : Hd} (e : h.qn = k.qn ∧ h.qt = k.qt) : qm h k = true := @decide_eq_true _ (Classical.propDecidable _) e
theorem qm_false {h k : Hd} (e : ¬ (h.qn = k.qn ∧ h.qt = k.qt)) : qm h k = false := @decide_eq_false _ (Classical.propDecidable _) e

theorem neqH_same (h : Hd) (w : World) : Sem.run Try.prog (binOp .neq 49 (.agg #[.int .i64 h.id, .bool h.rp, .bool h.au, .bool h.ct, .bool h.wa, .bool h.ca, .int .i64 h.code]) (.agg #[.int .i64 h.id, .bool h.rp, .bool h.au, .bool h.ct, .bool h.wa, .bool h.ca, .int .i64 h.code])) w = .ok (.bool false) w := by
  have u3 := Try.underlying3
  have a3 := Try.isAgg3
  have z3 := Try.sizeOf3
  have u4 := Try.underlying4
  have a4 := Try.isAgg4
  have z4 := Try.sizeOf4
  have hS : Try.prog.underlying 49 = some (.struct (Try.prog.fieldsOf 49)) := by kernel_rfl
  have hp : Try.prog.stoodInHeld 49 = false := by kernel_rfl
  rw [run_neq_struct, show (10000 : Nat) = 9999 + 1 from rfl, run_equalIn_agg w 9999 49 _ _ hS hp]
  simp only [Program.fieldsOf, Try.underlying49]
  go_simp

theorem neqH_diff {h k : Hd} (e : ¬ hid7 h k) (w : World) : Sem.run Try.prog (binOp .neq 49 (.agg #[.int .i64 h.id, .bool h.rp, .bool h.au, .bool h.ct, .bool h.wa, .bool h.ca, .int .i64 h.code]) (.agg #[.int .i64 k.id, .bool k.rp, .bool k.au, .bool k.ct, .bool k.wa, .bool k.ca, .int .i64 k.code])) w = .ok (.bool true) w := by
  have u3 := Try.underlying3
  have a3 := Try.isAgg3
  have z3 := Try.sizeOf3
  have u4 := Try.underlying4
  have a4 := Try.isAgg4
  have z4 := Try.sizeOf4
  have hS : Try.prog.underlying 49 = some (.struct (Try.prog.fieldsOf 49)) := by kernel_rfl
  have hp : Try.prog.stoodInHeld 49 = false := by kernel_rfl
  rw [run_neq_struct, show (10000 : Nat) = 9999 + 1 from rfl, run_equalIn_agg w 9999 49 _ _ hS hp]
  simp only [Program.fieldsOf, Try.underlying49]
  obtain ⟨i1, p1, q1, r1, s1, t1, d1, _, _⟩ := h
  obtain ⟨i2, p2, q2, r2, s2, t2, d2, _, _⟩ := k
  unfold hid7 at e
  simp only at e ⊢
  by_cases c0 : i1 = i2
  · subst c0
    by_cases c1 : p1 = p2
    · subst c1
      by_cases c2 : q1 = q2
      · subst c2
        by_cases c3 : r1 = r2
        · subst c3
          by_cases c4 : s1 = s2
          · subst c4
            by_cases c5 : t1 = t2
            · subst c5
              by_cases c6 : d1 = d2
              · exact absurd ⟨rfl, rfl, rfl, rfl, rfl, rfl, c6⟩ e
              · go_simp
            · have k := beq_eq_false_iff_ne.2 c5
              go_simp
          · have k := beq_eq_false_iff_ne.2 c4
            go_simp
        · have k := beq_eq_false_iff_ne.2 c3
          go_simp
      · have k := beq_eq_false_iff_ne.2 c2
        go_simp
    · have k := beq_eq_false_iff_ne.2 c1
      go_simp
  · go_simp

theorem neqQ_same (s : ByteArray) (n : Int) (w : World) : Sem.run Try.prog (binOp .neq 29 (.agg #[.string s, .int .i64 n]) (.agg #[.string s, .int .i64 n])) w = .ok (.bool false) w := by
  have u3 := Try.underlying3
  have a3 := Try.isAgg3
  have z3 := Try.sizeOf3
  have u9 := Try.underlying9
  have a9 := Try.isAgg9
  have z9 := Try.sizeOf9
  have hS : Try.prog.underlying 29 = some (.struct (Try.prog.fieldsOf 29)) := by kernel_rfl
  have hp : Try.prog.stoodInHeld 29 = false := by kernel_rfl
  rw [run_neq_struct, show (10000 : Nat) = 9999 + 1 from rfl, run_equalIn_agg w 9999 29 _ _ hS hp]
  simp only [Program.fieldsOf, Try.underlying29]
  go_simp

theorem neqQ_diff {s t : ByteArray} {n m : Int} (e : ¬ (s = t ∧ n = m)) (w : World) : Sem.run Try.prog (binOp .neq 29 (.agg #[.string s, .int .i64 n]) (.agg #[.string t, .int .i64 m])) w = .ok (.bool true) w := by
  have u3 := Try.underlying3
  have a3 := Try.isAgg3
  have z3 := Try.sizeOf3
  have u9 := Try.underlying9
  have a9 := Try.isAgg9
  have z9 := Try.sizeOf9
  have hS : Try.prog.underlying 29 = some (.struct (Try.prog.fieldsOf 29)) := by kernel_rfl
  have hp : Try.prog.stoodInHeld 29 = false := by kernel_rfl
  rw [run_neq_struct, show (10000 : Nat) = 9999 + 1 from rfl, run_equalIn_agg w 9999 29 _ _ hS hp]
  simp only [Program.fieldsOf, Try.underlying29]
  by_cases c0 : s = t
  · subst c0
    by_cases c1 : n = m
    · exact absurd ⟨rfl, c1⟩ e
    · go_simp
  · have k := bytes_ne c0
    go_simp

theorem eqlQ_same (s : ByteArray) (n : Int) (w : World) : Sem.run Try.prog (binOp .eql 29 (.agg #[.string s, .int .i64 n]) (.agg #[.string s, .int .i64 n])) w = .ok (.bool true) w := by
  have u3 := Try.underlying3
  have a3 := Try.isAgg3
  have z3 := Try.sizeOf3
  have u9 := Try.underlying9
  have a9 := Try.isAgg9
  have z9 := Try.sizeOf9
  have hS : Try.prog.underlying 29 = some (.struct (Try.prog.fieldsOf 29)) := by kernel_rfl
  have hp : Try.prog.stoodInHeld 29 = false := by kernel_rfl
  rw [run_eql_struct, show (10000 : Nat) = 9999 + 1 from rfl, run_equalIn_agg w 9999 29 _ _ hS hp]
  simp only [Program.fieldsOf, Try.underlying29]
  go_simp

theorem eqlQ_diff {s t : ByteArray} {n m : Int} (e : ¬ (s = t ∧ n = m)) (w : World) : Sem.run Try.prog (binOp .eql 29 (.agg #[.string s, .int .i64 n]) (.agg #[.string t, .int .i64 m])) w = .ok (.bool false) w := by
  have u3 := Try.underlying3
  have a3 := Try.isAgg3
  have z3 := Try.sizeOf3
  have u9 := Try.underlying9
  have a9 := Try.isAgg9
  have z9 := Try.sizeOf9
  have hS : Try.prog.underlying 29 = some (.struct (Try.prog.fieldsOf 29)) := by kernel_rfl
  have hp : Try.prog.stoodInHeld 29 = false := by kernel_rfl
  rw [run_eql_struct, show (10000 : Nat) = 9999 + 1 from rfl, run_equalIn_agg w 9999 29 _ _ hS hp]
  simp only [Program.fieldsOf, Try.underlying29]
  by_cases c0 : s = t
  · subst c0
    by_cases c1 : n = m
    · exact absurd ⟨rfl, c1⟩ e
    · go_simp
  · have k := bytes_ne c0
    go_simp

theorem grdH : Try.prog.eqGuardType Try.prog.depth 49 = false := by kernel_rfl
theorem grdQ : Try.prog.eqGuardType Try.prog.depth 29 = false := by kernel_rfl

theorem smm_h {h k : Hd} {l1 l2 l3 m1 m2 m3 : List Rec} (e : ¬ hid7 h k) : smm h k l1 l2 l3 m1 m2 m3 = false := by rw [smm, hm_false e]; rfl
theorem smm_q {h k : Hd} {l1 l2 l3 m1 m2 m3 : List Rec} (e : ¬ (h.qn = k.qn ∧ h.qt = k.qt)) : smm h k l1 l2 l3 m1 m2 m3 = false := by rw [smm, qm_false e, Bool.false_and, Bool.and_false]
theorem smm_r {h : Hd} {l1 l2 l3 m1 m2 m3 : List Rec} : smm h h l1 l2 l3 m1 m2 m3 = (sm l1 m1 && (sm l2 m2 && sm l3 m3)) := by rw [smm, hm_true ⟨rfl, rfl, rfl, rfl, rfl, rfl, rfl⟩, qm_true ⟨rfl, rfl⟩]; rfl
end Go.Proofs.Ytbjhkhmhmldjoaa.SamM
