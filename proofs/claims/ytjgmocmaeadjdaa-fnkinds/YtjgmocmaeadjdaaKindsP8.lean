/- Some ways of sameMsg. -/
import Derived.Test.YtjgmocmaeadjdaaKindsP7
import Derived.Test.YtjgmocmaeadjdaaKindsP2
import Derived.Test.YtjgmocmaeadjdaaKindsP1
/- What AnswerIn, MoreIn and HelpIn do in the program: a field of the content (perhaps nil). Condition: at most 1048576 records, no name of more than 400000000 bytes. -/
namespace Go.Proofs.Ytjgmocmaeadjdaa.AnsI
open Go.RowKit Go.Proofs.Ytjgmocmaeadjdaa.Mem Go.Proofs.Ytjgmocmaeadjdaa.MemR Go.Proofs.Ytjgmocmaeadjdaa.ServeMath Go.Proofs.Ytjgmocmaeadjdaa.MemZ Go.Proofs.Ytjgmocmaeadjdaa.MemM Go.Proofs.Ytjgmocmaeadjdaa.KindS Go.Proofs.Ytjgmocmaeadjdaa.ResC Go.Proofs.Ytjgmocmaeadjdaa.ContI

/-- The call returned a slice (nil, or new) that reads as the records, and turned nothing that was there. -/
def GivesN (w : World) (L : List Rec) (e : Ending) (w' : World) : Prop := ∃ A m c, e = .returned (.slice A m c) ∧ Sec w.heap.size w' A m c L ∧ Below w.heap.size w w'

theorem field1 (d : Int) (a : Bool) (A1 : Option Addr) (m1 c1 : Nat) (A2 : Option Addr) (m2 c2 : Nat) (A3 : Option Addr) (m3 c3 : Nat) (w : World) : (Instr.field 58 (.agg #[.int .i64 d, .bool a, .slice A1 m1 c1, .slice A2 m2 c2, .slice A3 m3 c3]) 2).run Try.prog w = .ok (.slice A1 m1 c1) w := by kernel_rfl

theorem field2 (d : Int) (a : Bool) (A1 : Option Addr) (m1 c1 : Nat) (A2 : Option Addr) (m2 c2 : Nat) (A3 : Option Addr) (m3 c3 : Nat) (w : World) : (Instr.field 58 (.agg #[.int .i64 d, .bool a, .slice A1 m1 c1, .slice A2 m2 c2, .slice A3 m3 c3]) 3).run Try.prog w = .ok (.slice A2 m2 c2) w := by kernel_rfl

theorem field3 (d : Int) (a : Bool) (A1 : Option Addr) (m1 c1 : Nat) (A2 : Option Addr) (m2 c2 : Nat) (A3 : Option Addr) (m3 c3 : Nat) (w : World) : (Instr.field 58 (.agg #[.int .i64 d, .bool a, .slice A1 m1 c1, .slice A2 m2 c2, .slice A3 m3 c3]) 4).run Try.prog w = .ok (.slice A3 m3 c3) w := by kernel_rfl

set_option maxHeartbeats 2000000 in
theorem answerIn (s nm : ByteArray) (ty : Int) (b0 o0 n c : Nat) (l : List Rec) (w : World) (hs : Sr w w.heap.size (some ⟨b0, o0, none⟩) n l) (hn : n ≤ 1048576) (hm : s.size ≤ 400000000) (hq : nm.size ≤ 400000000) (hz : ∀ r ∈ l, r.name.size ≤ 400000000) :
    Calls Try.prog 11 #[.agg #[.string s, .slice (some ⟨b0, o0, none⟩) n c], .agg #[.string nm, .int .i64 ty]] w (GivesN w (anl (kd s nm ty l) nm ty l)) := by
  obtain ⟨⟨hx, hy⟩, hl0⟩ := two w s nm ty (.slice (some ⟨b0, o0, none⟩) n c) 26 28
  have X0 := Lib.hid hx
  have Y0 := Lib.hid hy
  have L0 := Lib.hid hl0
  have S0 := Lib.hid (hs.on hl0)
  have CI := Lib.hid (fun W hW => ContI.impl s nm ty b0 o0 n c l W hW hn hm hq hz)
  clear hx hy hl0 hs hz
  generalize kd s nm ty l = k at *
  obtain ⟨x0, x1⟩ := X0.out
  obtain ⟨y0, y1⟩ := Y0.out
  go_enter Try.func11, Try.ntmps11
  go_wp2_with fail
  refine (CI.out _ S0.out).mono ?_
  rintro e w1 ⟨A1, m1, c1, A2, m2, c2, A3, m3, c3, rfl, q1, q2, q3, hl⟩
  have Q := Lib.hid (q1.low L0.out.size)
  have HF := field1 (rcd k) (aut k) A1 m1 c1 A2 m2 c2 A3 m3 c3 w1
  have L1 := Lib.hid (L0.out.trans (hl.mono L0.out.size))
  clear q1 q2 q3 hl CI S0 L0 X0 Y0 x0 x1 y0 y1
  go_wp2
  go_ret
  exact ⟨A1, m1, c1, rfl, Q.out, L1.out⟩

set_option maxHeartbeats 2000000 in
theorem moreIn (s nm : ByteArray) (ty : Int) (b0 o0 n c : Nat) (l : List Rec) (w : World) (hs : Sr w w.heap.size (some ⟨b0, o0, none⟩) n l) (hn : n ≤ 1048576) (hm : s.size ≤ 400000000) (hq : nm.size ≤ 400000000) (hz : ∀ r ∈ l, r.name.size ≤ 400000000) :
    Calls Try.prog 13 #[.agg #[.string s, .slice (some ⟨b0, o0, none⟩) n c], .agg #[.string nm, .int .i64 ty]] w (GivesN w (mol (kd s nm ty l) s nm l)) := by
  obtain ⟨⟨hx, hy⟩, hl0⟩ := two w s nm ty (.slice (some ⟨b0, o0, none⟩) n c) 26 28
  have X0 := Lib.hid hx
  have Y0 := Lib.hid hy
  have L0 := Lib.hid hl0
  have S0 := Lib.hid (hs.on hl0)
  have CI := Lib.hid (fun W hW => ContI.impl s nm ty b0 o0 n c l W hW hn hm hq hz)
  clear hx hy hl0 hs hz
  generalize kd s nm ty l = k at *
  obtain ⟨x0, x1⟩ := X0.out
  obtain ⟨y0, y1⟩ := Y0.out
  go_enter Try.func13, Try.ntmps13
  go_wp2_with fail
  refine (CI.out _ S0.out).mono ?_
  rintro e w1 ⟨A1, m1, c1, A2, m2, c2, A3, m3, c3, rfl, q1, q2, q3, hl⟩
  have Q := Lib.hid (q2.low L0.out.size)
  have HF := field2 (rcd k) (aut k) A1 m1 c1 A2 m2 c2 A3 m3 c3 w1
  have L1 := Lib.hid (L0.out.trans (hl.mono L0.out.size))
  clear q1 q2 q3 hl CI S0 L0 X0 Y0 x0 x1 y0 y1
  go_wp2
  go_ret
  exact ⟨A2, m2, c2, rfl, Q.out, L1.out⟩

set_option maxHeartbeats 2000000 in
theorem helpIn (s nm : ByteArray) (ty : Int) (b0 o0 n c : Nat) (l : List Rec) (w : World) (hs : Sr w w.heap.size (some ⟨b0, o0, none⟩) n l) (hn : n ≤ 1048576) (hm : s.size ≤ 400000000) (hq : nm.size ≤ 400000000) (hz : ∀ r ∈ l, r.name.size ≤ 400000000) :
    Calls Try.prog 15 #[.agg #[.string s, .slice (some ⟨b0, o0, none⟩) n c], .agg #[.string nm, .int .i64 ty]] w (GivesN w (hel (kd s nm ty l) s nm l)) := by
  obtain ⟨⟨hx, hy⟩, hl0⟩ := two w s nm ty (.slice (some ⟨b0, o0, none⟩) n c) 26 28
  have X0 := Lib.hid hx
  have Y0 := Lib.hid hy
  have L0 := Lib.hid hl0
  have S0 := Lib.hid (hs.on hl0)
  have CI := Lib.hid (fun W hW => ContI.impl s nm ty b0 o0 n c l W hW hn hm hq hz)
  clear hx hy hl0 hs hz
  generalize kd s nm ty l = k at *
  obtain ⟨x0, x1⟩ := X0.out
  obtain ⟨y0, y1⟩ := Y0.out
  go_enter Try.func15, Try.ntmps15
  go_wp2_with fail
  refine (CI.out _ S0.out).mono ?_
  rintro e w1 ⟨A1, m1, c1, A2, m2, c2, A3, m3, c3, rfl, q1, q2, q3, hl⟩
  have Q := Lib.hid (q3.low L0.out.size)
  have HF := field3 (rcd k) (aut k) A1 m1 c1 A2 m2 c2 A3 m3 c3 w1
  have L1 := Lib.hid (L0.out.trans (hl.mono L0.out.size))
  clear q1 q2 q3 hl CI S0 L0 X0 Y0 x0 x1 y0 y1
  go_wp2
  go_ret
  exact ⟨A3, m3, c3, rfl, Q.out, L1.out⟩

end Go.Proofs.Ytjgmocmaeadjdaa.AnsI

/- What the program's messageOf does: the same fields in another struct; and the sections of it by number. No condition. -/
namespace Go.Proofs.Ytjgmocmaeadjdaa.OfM
open Go.RowKit Go.Proofs.Ytjgmocmaeadjdaa.Mem Go.Proofs.Ytjgmocmaeadjdaa.MemR Go.Proofs.Ytjgmocmaeadjdaa.MemM Go.Proofs.Ytjgmocmaeadjdaa.ResM

end Go.Proofs.Ytjgmocmaeadjdaa.OfM

/- What SameMsg does in the program and in the model: whether two messages are equal in all fields and all records. Condition: fewer than 400000001 records in each section. -/
namespace Go.Proofs.Ytjgmocmaeadjdaa.SamM
open Go.RowKit Go.Proofs.Ytjgmocmaeadjdaa.Mem Go.Proofs.Ytjgmocmaeadjdaa.MemR Go.Proofs.Ytjgmocmaeadjdaa.BoxR Go.Proofs.Ytjgmocmaeadjdaa.MemM Go.Proofs.Ytjgmocmaeadjdaa.ResM Go.Proofs.Ytjgmocmaeadjdaa.SameR Go.Proofs.Ytjgmocmaeadjdaa.OfM

/-- Whether two messages are equal but for the records, field by field. -/
def hid7 (h k : Hd) : Prop := h.id = k.id ∧ h.rp = k.rp ∧ h.au = k.au ∧ h.ct = k.ct ∧ h.wa = k.wa ∧ h.ca = k.ca ∧ h.code = k.code
noncomputable def hm (h k : Hd) : Bool := @decide (hid7 h k) (Classical.propDecidable _)
noncomputable def qm (h k : Hd) : Bool := @decide (h.qn = k.qn ∧ h.qt = k.qt) (Classical.propDecidable _)
/-- Whether two messages are the same. A def, so that no step of a walk opens it. -/
noncomputable def smm (h k : Hd) (l1 l2 l3 m1 m2 m3 : List Rec) : Bool := hm h k && (qm h k && (sm l1 m1 && (sm l2 m2 && sm l3 m3)))
theorem hm_true {h k : Hd} (e : hid7 h k) : hm h k = true := @decide_eq_true _ (Classical.propDecidable _) e
theorem hm_false {h k : Hd} (e : ¬ hid7 h k) : hm h k = false := @decide_eq_false _ (Classical.propDecidable _) e
theorem qm_true {h k : Hd} (e : h.qn = k.qn ∧ h.qt = k.qt) : qm h k = true := @decide_eq_true _ (Classical.propDecidable _) e
theorem qm_false {h k : Hd} (e : ¬ (h.qn = k.qn ∧ h.qt = k.qt)) : qm h k = false := @decide_eq_false _ (Classical.propDecidable _) e

theorem neqQ_same (s : ByteArray) (n : Int) (w : World) : Sem.run Try.prog (binOp .neq 28 (.agg #[.string s, .int .i64 n]) (.agg #[.string s, .int .i64 n])) w = .ok (.bool false) w := by
  have u3 := Try.underlying3
  have a3 := Try.isAgg3
  have z3 := Try.sizeOf3
  have u9 := Try.underlying9
  have a9 := Try.isAgg9
  have z9 := Try.sizeOf9
  have hS : Try.prog.underlying 28 = some (.struct (Try.prog.fieldsOf 28)) := by kernel_rfl
  have hp : Try.prog.stoodInHeld 28 = false := by kernel_rfl
  rw [run_neq_struct, show (10000 : Nat) = 9999 + 1 from rfl, run_equalIn_agg w 9999 28 _ _ hS hp]
  simp only [Program.fieldsOf, Try.underlying28]
  go_simp

theorem neqQ_diff {s t : ByteArray} {n m : Int} (e : ¬ (s = t ∧ n = m)) (w : World) : Sem.run Try.prog (binOp .neq 28 (.agg #[.string s, .int .i64 n]) (.agg #[.string t, .int .i64 m])) w = .ok (.bool true) w := by
  have u3 := Try.underlying3
  have a3 := Try.isAgg3
  have z3 := Try.sizeOf3
  have u9 := Try.underlying9
  have a9 := Try.isAgg9
  have z9 := Try.sizeOf9
  have hS : Try.prog.underlying 28 = some (.struct (Try.prog.fieldsOf 28)) := by kernel_rfl
  have hp : Try.prog.stoodInHeld 28 = false := by kernel_rfl
  rw [run_neq_struct, show (10000 : Nat) = 9999 + 1 from rfl, run_equalIn_agg w 9999 28 _ _ hS hp]
  simp only [Program.fieldsOf, Try.underlying28]
  by_cases c0 : s = t
  · subst c0
    by_cases c1 : n = m
    · exact absurd ⟨rfl, c1⟩ e
    · go_simp
  · have k := bytes_ne c0
    go_simp

theorem eqlQ_same (s : ByteArray) (n : Int) (w : World) : Sem.run Try.prog (binOp .eql 28 (.agg #[.string s, .int .i64 n]) (.agg #[.string s, .int .i64 n])) w = .ok (.bool true) w := by
  have u3 := Try.underlying3
  have a3 := Try.isAgg3
  have z3 := Try.sizeOf3
  have u9 := Try.underlying9
  have a9 := Try.isAgg9
  have z9 := Try.sizeOf9
  have hS : Try.prog.underlying 28 = some (.struct (Try.prog.fieldsOf 28)) := by kernel_rfl
  have hp : Try.prog.stoodInHeld 28 = false := by kernel_rfl
  rw [run_eql_struct, show (10000 : Nat) = 9999 + 1 from rfl, run_equalIn_agg w 9999 28 _ _ hS hp]
  simp only [Program.fieldsOf, Try.underlying28]
  go_simp

theorem eqlQ_diff {s t : ByteArray} {n m : Int} (e : ¬ (s = t ∧ n = m)) (w : World) : Sem.run Try.prog (binOp .eql 28 (.agg #[.string s, .int .i64 n]) (.agg #[.string t, .int .i64 m])) w = .ok (.bool false) w := by
  have u3 := Try.underlying3
  have a3 := Try.isAgg3
  have z3 := Try.sizeOf3
  have u9 := Try.underlying9
  have a9 := Try.isAgg9
  have z9 := Try.sizeOf9
  have hS : Try.prog.underlying 28 = some (.struct (Try.prog.fieldsOf 28)) := by kernel_rfl
  have hp : Try.prog.stoodInHeld 28 = false := by kernel_rfl
  rw [run_eql_struct, show (10000 : Nat) = 9999 + 1 from rfl, run_equalIn_agg w 9999 28 _ _ hS hp]
  simp only [Program.fieldsOf, Try.underlying28]
  by_cases c0 : s = t
  · subst c0
    by_cases c1 : n = m
    · exact absurd ⟨rfl, c1⟩ e
    · go_simp
  · have k := bytes_ne c0
    go_simp

theorem grdQ : Try.prog.eqGuardType Try.prog.depth 28 = false := by kernel_rfl

theorem smm_h {h k : Hd} {l1 l2 l3 m1 m2 m3 : List Rec} (e : ¬ hid7 h k) : smm h k l1 l2 l3 m1 m2 m3 = false := by rw [smm, hm_false e]; rfl
theorem smm_q {h k : Hd} {l1 l2 l3 m1 m2 m3 : List Rec} (e : ¬ (h.qn = k.qn ∧ h.qt = k.qt)) : smm h k l1 l2 l3 m1 m2 m3 = false := by rw [smm, qm_false e, Bool.false_and, Bool.and_false]
theorem smm_r {h : Hd} {l1 l2 l3 m1 m2 m3 : List Rec} : smm h h l1 l2 l3 m1 m2 m3 = (sm l1 m1 && (sm l2 m2 && sm l3 m3)) := by rw [smm, hm_true ⟨rfl, rfl, rfl, rfl, rfl, rfl, rfl⟩, qm_true ⟨rfl, rfl⟩]; rfl
end Go.Proofs.Ytjgmocmaeadjdaa.SamM

/- Some ways of sameMsg. -/
namespace Go.Proofs.Ytjgmocmaeadjdaa.SamF
open Go.RowKit Go.Proofs.Ytjgmocmaeadjdaa.Mem Go.Proofs.Ytjgmocmaeadjdaa.MemR Go.Proofs.Ytjgmocmaeadjdaa.BoxR Go.Proofs.Ytjgmocmaeadjdaa.MemM Go.Proofs.Ytjgmocmaeadjdaa.ResM Go.Proofs.Ytjgmocmaeadjdaa.SameR Go.Proofs.Ytjgmocmaeadjdaa.SamM

set_option maxRecDepth 100000 in
set_option maxHeartbeats 4000000 in
theorem lw_f0 (ia : Int) (pa : Bool) (qa : Bool) (ra : Bool) (sa : Bool) (ta : Bool) (da : Int) (nma : ByteArray) (tya : Int) (ib : Int) (pb : Bool) (qb : Bool) (rb : Bool) (sb : Bool) (tb : Bool) (db : Int) (nmb : ByteArray) (tyb : Int) (A1 A1' : Option Addr) (n1 n1' c1 c1' : Nat) (A2 A2' : Option Addr) (n2 n2' c2 c2' : Nat) (A3 A3' : Option Addr) (n3 n3' c3 c3' : Nat) (w : World) (c : ¬ ia = ib) : Calls Try.prog 17 #[.agg #[.int .i64 ia, .bool pa, .bool qa, .bool ra, .bool sa, .bool ta, .int .i64 da, .string nma, .int .i64 tya, .slice A1 n1 c1, .slice A2 n2 c2, .slice A3 n3 c3], .agg #[.int .i64 ib, .bool pb, .bool qb, .bool rb, .bool sb, .bool tb, .int .i64 db, .string nmb, .int .i64 tyb, .slice A1' n1' c1', .slice A2' n2' c2', .slice A3' n3' c3']] w fun e w' => e = .returned (.bool false) ∧ Below w.heap.size w w' := by
  have kk := beq_eq_false_iff_ne.2 c
  go_enter Try.func17, Try.ntmps17
  go_wp2
  go_ret
  exact ⟨rfl, ((Below.refl _ _).alloc (Nat.le_refl _) _).alloc (by simp) _⟩

set_option maxRecDepth 100000 in
set_option maxHeartbeats 4000000 in
theorem lw_f1 (ia : Int) (pa : Bool) (qa : Bool) (ra : Bool) (sa : Bool) (ta : Bool) (da : Int) (nma : ByteArray) (tya : Int) (pb : Bool) (qb : Bool) (rb : Bool) (sb : Bool) (tb : Bool) (db : Int) (nmb : ByteArray) (tyb : Int) (A1 A1' : Option Addr) (n1 n1' c1 c1' : Nat) (A2 A2' : Option Addr) (n2 n2' c2 c2' : Nat) (A3 A3' : Option Addr) (n3 n3' c3 c3' : Nat) (w : World) (c : ¬ pa = pb) : Calls Try.prog 17 #[.agg #[.int .i64 ia, .bool pa, .bool qa, .bool ra, .bool sa, .bool ta, .int .i64 da, .string nma, .int .i64 tya, .slice A1 n1 c1, .slice A2 n2 c2, .slice A3 n3 c3], .agg #[.int .i64 ia, .bool pb, .bool qb, .bool rb, .bool sb, .bool tb, .int .i64 db, .string nmb, .int .i64 tyb, .slice A1' n1' c1', .slice A2' n2' c2', .slice A3' n3' c3']] w fun e w' => e = .returned (.bool false) ∧ Below w.heap.size w w' := by
  have kk := beq_eq_false_iff_ne.2 c
  go_enter Try.func17, Try.ntmps17
  go_wp2
  go_ret
  exact ⟨rfl, ((Below.refl _ _).alloc (Nat.le_refl _) _).alloc (by simp) _⟩

set_option maxRecDepth 100000 in
set_option maxHeartbeats 4000000 in
theorem lw_f2 (ia : Int) (pa : Bool) (qa : Bool) (ra : Bool) (sa : Bool) (ta : Bool) (da : Int) (nma : ByteArray) (tya : Int) (qb : Bool) (rb : Bool) (sb : Bool) (tb : Bool) (db : Int) (nmb : ByteArray) (tyb : Int) (A1 A1' : Option Addr) (n1 n1' c1 c1' : Nat) (A2 A2' : Option Addr) (n2 n2' c2 c2' : Nat) (A3 A3' : Option Addr) (n3 n3' c3 c3' : Nat) (w : World) (c : ¬ qa = qb) : Calls Try.prog 17 #[.agg #[.int .i64 ia, .bool pa, .bool qa, .bool ra, .bool sa, .bool ta, .int .i64 da, .string nma, .int .i64 tya, .slice A1 n1 c1, .slice A2 n2 c2, .slice A3 n3 c3], .agg #[.int .i64 ia, .bool pa, .bool qb, .bool rb, .bool sb, .bool tb, .int .i64 db, .string nmb, .int .i64 tyb, .slice A1' n1' c1', .slice A2' n2' c2', .slice A3' n3' c3']] w fun e w' => e = .returned (.bool false) ∧ Below w.heap.size w w' := by
  have kk := beq_eq_false_iff_ne.2 c
  go_enter Try.func17, Try.ntmps17
  go_wp2
  go_ret
  exact ⟨rfl, ((Below.refl _ _).alloc (Nat.le_refl _) _).alloc (by simp) _⟩

end Go.Proofs.Ytjgmocmaeadjdaa.SamF

/- Some ways of sameMsg. -/
namespace Go.Proofs.Ytjgmocmaeadjdaa.SamG
open Go.RowKit Go.Proofs.Ytjgmocmaeadjdaa.Mem Go.Proofs.Ytjgmocmaeadjdaa.MemR Go.Proofs.Ytjgmocmaeadjdaa.BoxR Go.Proofs.Ytjgmocmaeadjdaa.MemM Go.Proofs.Ytjgmocmaeadjdaa.ResM Go.Proofs.Ytjgmocmaeadjdaa.SameR Go.Proofs.Ytjgmocmaeadjdaa.SamM

set_option maxRecDepth 100000 in
set_option maxHeartbeats 4000000 in
theorem lw_f3 (ia : Int) (pa : Bool) (qa : Bool) (ra : Bool) (sa : Bool) (ta : Bool) (da : Int) (nma : ByteArray) (tya : Int) (rb : Bool) (sb : Bool) (tb : Bool) (db : Int) (nmb : ByteArray) (tyb : Int) (A1 A1' : Option Addr) (n1 n1' c1 c1' : Nat) (A2 A2' : Option Addr) (n2 n2' c2 c2' : Nat) (A3 A3' : Option Addr) (n3 n3' c3 c3' : Nat) (w : World) (c : ¬ ra = rb) : Calls Try.prog 17 #[.agg #[.int .i64 ia, .bool pa, .bool qa, .bool ra, .bool sa, .bool ta, .int .i64 da, .string nma, .int .i64 tya, .slice A1 n1 c1, .slice A2 n2 c2, .slice A3 n3 c3], .agg #[.int .i64 ia, .bool pa, .bool qa, .bool rb, .bool sb, .bool tb, .int .i64 db, .string nmb, .int .i64 tyb, .slice A1' n1' c1', .slice A2' n2' c2', .slice A3' n3' c3']] w fun e w' => e = .returned (.bool false) ∧ Below w.heap.size w w' := by
  have kk := beq_eq_false_iff_ne.2 c
  go_enter Try.func17, Try.ntmps17
  go_wp2
  go_ret
  exact ⟨rfl, ((Below.refl _ _).alloc (Nat.le_refl _) _).alloc (by simp) _⟩

set_option maxRecDepth 100000 in
set_option maxHeartbeats 4000000 in
theorem lw_f4 (ia : Int) (pa : Bool) (qa : Bool) (ra : Bool) (sa : Bool) (ta : Bool) (da : Int) (nma : ByteArray) (tya : Int) (sb : Bool) (tb : Bool) (db : Int) (nmb : ByteArray) (tyb : Int) (A1 A1' : Option Addr) (n1 n1' c1 c1' : Nat) (A2 A2' : Option Addr) (n2 n2' c2 c2' : Nat) (A3 A3' : Option Addr) (n3 n3' c3 c3' : Nat) (w : World) (c : ¬ sa = sb) : Calls Try.prog 17 #[.agg #[.int .i64 ia, .bool pa, .bool qa, .bool ra, .bool sa, .bool ta, .int .i64 da, .string nma, .int .i64 tya, .slice A1 n1 c1, .slice A2 n2 c2, .slice A3 n3 c3], .agg #[.int .i64 ia, .bool pa, .bool qa, .bool ra, .bool sb, .bool tb, .int .i64 db, .string nmb, .int .i64 tyb, .slice A1' n1' c1', .slice A2' n2' c2', .slice A3' n3' c3']] w fun e w' => e = .returned (.bool false) ∧ Below w.heap.size w w' := by
  have kk := beq_eq_false_iff_ne.2 c
  go_enter Try.func17, Try.ntmps17
  go_wp2
  go_ret
  exact ⟨rfl, ((Below.refl _ _).alloc (Nat.le_refl _) _).alloc (by simp) _⟩

set_option maxRecDepth 100000 in
set_option maxHeartbeats 4000000 in
theorem lw_f5 (ia : Int) (pa : Bool) (qa : Bool) (ra : Bool) (sa : Bool) (ta : Bool) (da : Int) (nma : ByteArray) (tya : Int) (tb : Bool) (db : Int) (nmb : ByteArray) (tyb : Int) (A1 A1' : Option Addr) (n1 n1' c1 c1' : Nat) (A2 A2' : Option Addr) (n2 n2' c2 c2' : Nat) (A3 A3' : Option Addr) (n3 n3' c3 c3' : Nat) (w : World) (c : ¬ ta = tb) : Calls Try.prog 17 #[.agg #[.int .i64 ia, .bool pa, .bool qa, .bool ra, .bool sa, .bool ta, .int .i64 da, .string nma, .int .i64 tya, .slice A1 n1 c1, .slice A2 n2 c2, .slice A3 n3 c3], .agg #[.int .i64 ia, .bool pa, .bool qa, .bool ra, .bool sa, .bool tb, .int .i64 db, .string nmb, .int .i64 tyb, .slice A1' n1' c1', .slice A2' n2' c2', .slice A3' n3' c3']] w fun e w' => e = .returned (.bool false) ∧ Below w.heap.size w w' := by
  have kk := beq_eq_false_iff_ne.2 c
  go_enter Try.func17, Try.ntmps17
  go_wp2
  go_ret
  exact ⟨rfl, ((Below.refl _ _).alloc (Nat.le_refl _) _).alloc (by simp) _⟩

end Go.Proofs.Ytjgmocmaeadjdaa.SamG

/- Some ways of sameMsg. -/
namespace Go.Proofs.Ytjgmocmaeadjdaa.SamH
open Go.RowKit Go.Proofs.Ytjgmocmaeadjdaa.Mem Go.Proofs.Ytjgmocmaeadjdaa.MemR Go.Proofs.Ytjgmocmaeadjdaa.BoxR Go.Proofs.Ytjgmocmaeadjdaa.MemM Go.Proofs.Ytjgmocmaeadjdaa.ResM Go.Proofs.Ytjgmocmaeadjdaa.SameR Go.Proofs.Ytjgmocmaeadjdaa.SamM

set_option maxRecDepth 100000 in
set_option maxHeartbeats 4000000 in
theorem lw_f6 (ia : Int) (pa : Bool) (qa : Bool) (ra : Bool) (sa : Bool) (ta : Bool) (da : Int) (nma : ByteArray) (tya : Int) (db : Int) (nmb : ByteArray) (tyb : Int) (A1 A1' : Option Addr) (n1 n1' c1 c1' : Nat) (A2 A2' : Option Addr) (n2 n2' c2 c2' : Nat) (A3 A3' : Option Addr) (n3 n3' c3 c3' : Nat) (w : World) (c : ¬ da = db) : Calls Try.prog 17 #[.agg #[.int .i64 ia, .bool pa, .bool qa, .bool ra, .bool sa, .bool ta, .int .i64 da, .string nma, .int .i64 tya, .slice A1 n1 c1, .slice A2 n2 c2, .slice A3 n3 c3], .agg #[.int .i64 ia, .bool pa, .bool qa, .bool ra, .bool sa, .bool ta, .int .i64 db, .string nmb, .int .i64 tyb, .slice A1' n1' c1', .slice A2' n2' c2', .slice A3' n3' c3']] w fun e w' => e = .returned (.bool false) ∧ Below w.heap.size w w' := by
  have kk := beq_eq_false_iff_ne.2 c
  go_enter Try.func17, Try.ntmps17
  go_wp2
  go_ret
  exact ⟨rfl, ((Below.refl _ _).alloc (Nat.le_refl _) _).alloc (by simp) _⟩

set_option maxRecDepth 100000 in
set_option maxHeartbeats 4000000 in
theorem lw_f7 (ia : Int) (pa : Bool) (qa : Bool) (ra : Bool) (sa : Bool) (ta : Bool) (da : Int) (nma : ByteArray) (tya : Int) (nmb : ByteArray) (tyb : Int) (A1 A1' : Option Addr) (n1 n1' c1 c1' : Nat) (A2 A2' : Option Addr) (n2 n2' c2 c2' : Nat) (A3 A3' : Option Addr) (n3 n3' c3 c3' : Nat) (w : World) (c : ¬ (nma = nmb ∧ tya = tyb)) : Calls Try.prog 17 #[.agg #[.int .i64 ia, .bool pa, .bool qa, .bool ra, .bool sa, .bool ta, .int .i64 da, .string nma, .int .i64 tya, .slice A1 n1 c1, .slice A2 n2 c2, .slice A3 n3 c3], .agg #[.int .i64 ia, .bool pa, .bool qa, .bool ra, .bool sa, .bool ta, .int .i64 da, .string nmb, .int .i64 tyb, .slice A1' n1' c1', .slice A2' n2' c2', .slice A3' n3' c3']] w fun e w' => e = .returned (.bool false) ∧ Below w.heap.size w w' := by
  have kk := eqlQ_diff c
  have hg := grdQ
  clear c
  go_enter Try.func17, Try.ntmps17
  go_wp2
  go_ret
  exact ⟨rfl, ((Below.refl _ _).alloc (Nat.le_refl _) _).alloc (by simp) _⟩

end Go.Proofs.Ytjgmocmaeadjdaa.SamH

/- Some ways of sameMsg. -/
namespace Go.Proofs.Ytjgmocmaeadjdaa.SamI
open Go.RowKit Go.Proofs.Ytjgmocmaeadjdaa.Mem Go.Proofs.Ytjgmocmaeadjdaa.MemR Go.Proofs.Ytjgmocmaeadjdaa.BoxR Go.Proofs.Ytjgmocmaeadjdaa.MemM Go.Proofs.Ytjgmocmaeadjdaa.ResM Go.Proofs.Ytjgmocmaeadjdaa.SameR Go.Proofs.Ytjgmocmaeadjdaa.SamM

set_option maxRecDepth 100000 in
set_option maxHeartbeats 8000000 in
theorem lw_r1 (ia : Int) (pa : Bool) (qa : Bool) (ra : Bool) (sa : Bool) (ta : Bool) (da : Int) (nma : ByteArray) (tya : Int) (A1 A1' : Option Addr) (n1 n1' c1 c1' : Nat) (A2 A2' : Option Addr) (n2 n2' c2 c2' : Nat) (A3 A3' : Option Addr) (n3 n3' c3 c3' : Nat) (w : World) (C1 : ∀ W : World, Below w.heap.size w W → Calls Try.prog 10 #[.slice A1 n1 c1, .slice A1' n1' c1'] W fun e w' => e = .returned (.bool false) ∧ Below W.heap.size W w') : Calls Try.prog 17 #[.agg #[.int .i64 ia, .bool pa, .bool qa, .bool ra, .bool sa, .bool ta, .int .i64 da, .string nma, .int .i64 tya, .slice A1 n1 c1, .slice A2 n2 c2, .slice A3 n3 c3], .agg #[.int .i64 ia, .bool pa, .bool qa, .bool ra, .bool sa, .bool ta, .int .i64 da, .string nma, .int .i64 tya, .slice A1' n1' c1', .slice A2' n2' c2', .slice A3' n3' c3']] w fun e w' => e = .returned (.bool false) ∧ Below w.heap.size w w' := by
  have hg := grdQ
  have hqs := eqlQ_same nma tya
  have D1 := Lib.hid C1
  clear C1
  have L0 := Lib.hid (((Below.refl w.heap.size w).alloc (Nat.le_refl _) (.cells #[.int .i64 ia, .bool pa, .bool qa, .bool ra, .bool sa, .bool ta, .int .i64 da, .string nma, .int .i64 tya, .slice A1 n1 c1, .slice A2 n2 c2, .slice A3 n3 c3] 32)).alloc (by simp) (.cells #[.int .i64 ia, .bool pa, .bool qa, .bool ra, .bool sa, .bool ta, .int .i64 da, .string nma, .int .i64 tya, .slice A1' n1' c1', .slice A2' n2' c2', .slice A3' n3' c3'] 32))
  have X0 : Hid (Mx ((w.alloc (.cells #[.int .i64 ia, .bool pa, .bool qa, .bool ra, .bool sa, .bool ta, .int .i64 da, .string nma, .int .i64 tya, .slice A1 n1 c1, .slice A2 n2 c2, .slice A3 n3 c3] 32)).alloc (.cells #[.int .i64 ia, .bool pa, .bool qa, .bool ra, .bool sa, .bool ta, .int .i64 da, .string nma, .int .i64 tya, .slice A1' n1' c1', .slice A2' n2' c2', .slice A3' n3' c3'] 32)) w.heap.size ⟨ia, pa, qa, ra, sa, ta, da, nma, tya⟩ (.slice A1 n1 c1) (.slice A2 n2 c2) (.slice A3 n3 c3)) := (mx_new w 32 ⟨ia, pa, qa, ra, sa, ta, da, nma, tya⟩ (.slice A1 n1 c1) (.slice A2 n2 c2) (.slice A3 n3 c3)).alloc _
  have Y0 : Hid (Mx ((w.alloc (.cells #[.int .i64 ia, .bool pa, .bool qa, .bool ra, .bool sa, .bool ta, .int .i64 da, .string nma, .int .i64 tya, .slice A1 n1 c1, .slice A2 n2 c2, .slice A3 n3 c3] 32)).alloc (.cells #[.int .i64 ia, .bool pa, .bool qa, .bool ra, .bool sa, .bool ta, .int .i64 da, .string nma, .int .i64 tya, .slice A1' n1' c1', .slice A2' n2' c2', .slice A3' n3' c3'] 32)) (w.heap.size + 1) ⟨ia, pa, qa, ra, sa, ta, da, nma, tya⟩ (.slice A1' n1' c1') (.slice A2' n2' c2') (.slice A3' n3' c3')) := mx_of (h := ⟨ia, pa, qa, ra, sa, ta, da, nma, tya⟩) (x := .slice A1' n1' c1') (y := .slice A2' n2' c2') (z := .slice A3' n3' c3') at2
  go_enter Try.func17, Try.ntmps17
  go_wp2_with fail
  refine (D1.out _ L0.out).mono ?_
  rintro e w1 ⟨rfl, hl⟩
  have L1 := Lib.hid (L0.out.trans (hl.mono L0.out.size))
  have X1 := Lib.hid (X0.out.below hl)
  have Y1 := Lib.hid (Y0.out.below hl)
  clear hl L0 X0 Y0 
  go_wp2
  go_ret
  exact ⟨rfl, L1.out⟩

set_option maxRecDepth 100000 in
set_option maxHeartbeats 8000000 in
theorem lw_r2 (ia : Int) (pa : Bool) (qa : Bool) (ra : Bool) (sa : Bool) (ta : Bool) (da : Int) (nma : ByteArray) (tya : Int) (A1 A1' : Option Addr) (n1 n1' c1 c1' : Nat) (A2 A2' : Option Addr) (n2 n2' c2 c2' : Nat) (A3 A3' : Option Addr) (n3 n3' c3 c3' : Nat) (w : World) (C1 : ∀ W : World, Below w.heap.size w W → Calls Try.prog 10 #[.slice A1 n1 c1, .slice A1' n1' c1'] W fun e w' => e = .returned (.bool true) ∧ Below W.heap.size W w') (C2 : ∀ W : World, Below w.heap.size w W → Calls Try.prog 10 #[.slice A2 n2 c2, .slice A2' n2' c2'] W fun e w' => e = .returned (.bool false) ∧ Below W.heap.size W w') : Calls Try.prog 17 #[.agg #[.int .i64 ia, .bool pa, .bool qa, .bool ra, .bool sa, .bool ta, .int .i64 da, .string nma, .int .i64 tya, .slice A1 n1 c1, .slice A2 n2 c2, .slice A3 n3 c3], .agg #[.int .i64 ia, .bool pa, .bool qa, .bool ra, .bool sa, .bool ta, .int .i64 da, .string nma, .int .i64 tya, .slice A1' n1' c1', .slice A2' n2' c2', .slice A3' n3' c3']] w fun e w' => e = .returned (.bool false) ∧ Below w.heap.size w w' := by
  have hg := grdQ
  have hqs := eqlQ_same nma tya
  have D1 := Lib.hid C1
  have D2 := Lib.hid C2
  clear C1 C2
  have L0 := Lib.hid (((Below.refl w.heap.size w).alloc (Nat.le_refl _) (.cells #[.int .i64 ia, .bool pa, .bool qa, .bool ra, .bool sa, .bool ta, .int .i64 da, .string nma, .int .i64 tya, .slice A1 n1 c1, .slice A2 n2 c2, .slice A3 n3 c3] 32)).alloc (by simp) (.cells #[.int .i64 ia, .bool pa, .bool qa, .bool ra, .bool sa, .bool ta, .int .i64 da, .string nma, .int .i64 tya, .slice A1' n1' c1', .slice A2' n2' c2', .slice A3' n3' c3'] 32))
  have X0 : Hid (Mx ((w.alloc (.cells #[.int .i64 ia, .bool pa, .bool qa, .bool ra, .bool sa, .bool ta, .int .i64 da, .string nma, .int .i64 tya, .slice A1 n1 c1, .slice A2 n2 c2, .slice A3 n3 c3] 32)).alloc (.cells #[.int .i64 ia, .bool pa, .bool qa, .bool ra, .bool sa, .bool ta, .int .i64 da, .string nma, .int .i64 tya, .slice A1' n1' c1', .slice A2' n2' c2', .slice A3' n3' c3'] 32)) w.heap.size ⟨ia, pa, qa, ra, sa, ta, da, nma, tya⟩ (.slice A1 n1 c1) (.slice A2 n2 c2) (.slice A3 n3 c3)) := (mx_new w 32 ⟨ia, pa, qa, ra, sa, ta, da, nma, tya⟩ (.slice A1 n1 c1) (.slice A2 n2 c2) (.slice A3 n3 c3)).alloc _
  have Y0 : Hid (Mx ((w.alloc (.cells #[.int .i64 ia, .bool pa, .bool qa, .bool ra, .bool sa, .bool ta, .int .i64 da, .string nma, .int .i64 tya, .slice A1 n1 c1, .slice A2 n2 c2, .slice A3 n3 c3] 32)).alloc (.cells #[.int .i64 ia, .bool pa, .bool qa, .bool ra, .bool sa, .bool ta, .int .i64 da, .string nma, .int .i64 tya, .slice A1' n1' c1', .slice A2' n2' c2', .slice A3' n3' c3'] 32)) (w.heap.size + 1) ⟨ia, pa, qa, ra, sa, ta, da, nma, tya⟩ (.slice A1' n1' c1') (.slice A2' n2' c2') (.slice A3' n3' c3')) := mx_of (h := ⟨ia, pa, qa, ra, sa, ta, da, nma, tya⟩) (x := .slice A1' n1' c1') (y := .slice A2' n2' c2') (z := .slice A3' n3' c3') at2
  go_enter Try.func17, Try.ntmps17
  go_wp2_with fail
  refine (D1.out _ L0.out).mono ?_
  rintro e w1 ⟨rfl, hl⟩
  have L1 := Lib.hid (L0.out.trans (hl.mono L0.out.size))
  have X1 := Lib.hid (X0.out.below hl)
  have Y1 := Lib.hid (Y0.out.below hl)
  clear hl L0 X0 Y0 
  obtain ⟨x0, x1, x2, x3, x4, x5, x6, x7, x8, x9, x10, x11⟩ := X1.out
  obtain ⟨y0, y1, y2, y3, y4, y5, y6, y7, y8, y9, y10, y11⟩ := Y1.out
  go_wp2_with fail
  refine (D2.out _ L1.out).mono ?_
  rintro e w2 ⟨rfl, hl⟩
  have L2 := Lib.hid (L1.out.trans (hl.mono L1.out.size))
  have X2 := Lib.hid (X1.out.below hl)
  have Y2 := Lib.hid (Y1.out.below hl)
  clear hl L1 X1 Y1 x0 x1 x2 x3 x4 x5 x6 x7 x8 x9 x10 x11 y0 y1 y2 y3 y4 y5 y6 y7 y8 y9 y10 y11
  go_wp2
  go_ret
  exact ⟨rfl, L2.out⟩

end Go.Proofs.Ytjgmocmaeadjdaa.SamI

/- Some ways of sameMsg. -/
namespace Go.Proofs.Ytjgmocmaeadjdaa.SamJ
open Go.RowKit Go.Proofs.Ytjgmocmaeadjdaa.Mem Go.Proofs.Ytjgmocmaeadjdaa.MemR Go.Proofs.Ytjgmocmaeadjdaa.BoxR Go.Proofs.Ytjgmocmaeadjdaa.MemM Go.Proofs.Ytjgmocmaeadjdaa.ResM Go.Proofs.Ytjgmocmaeadjdaa.SameR Go.Proofs.Ytjgmocmaeadjdaa.SamM

set_option maxRecDepth 100000 in
set_option maxHeartbeats 8000000 in
theorem lw_r3 (ia : Int) (pa : Bool) (qa : Bool) (ra : Bool) (sa : Bool) (ta : Bool) (da : Int) (nma : ByteArray) (tya : Int) (A1 A1' : Option Addr) (n1 n1' c1 c1' : Nat) (A2 A2' : Option Addr) (n2 n2' c2 c2' : Nat) (A3 A3' : Option Addr) (n3 n3' c3 c3' : Nat) (w : World) (u : Bool) (C1 : ∀ W : World, Below w.heap.size w W → Calls Try.prog 10 #[.slice A1 n1 c1, .slice A1' n1' c1'] W fun e w' => e = .returned (.bool true) ∧ Below W.heap.size W w') (C2 : ∀ W : World, Below w.heap.size w W → Calls Try.prog 10 #[.slice A2 n2 c2, .slice A2' n2' c2'] W fun e w' => e = .returned (.bool true) ∧ Below W.heap.size W w') (C3 : ∀ W : World, Below w.heap.size w W → Calls Try.prog 10 #[.slice A3 n3 c3, .slice A3' n3' c3'] W fun e w' => e = .returned (.bool u) ∧ Below W.heap.size W w') : Calls Try.prog 17 #[.agg #[.int .i64 ia, .bool pa, .bool qa, .bool ra, .bool sa, .bool ta, .int .i64 da, .string nma, .int .i64 tya, .slice A1 n1 c1, .slice A2 n2 c2, .slice A3 n3 c3], .agg #[.int .i64 ia, .bool pa, .bool qa, .bool ra, .bool sa, .bool ta, .int .i64 da, .string nma, .int .i64 tya, .slice A1' n1' c1', .slice A2' n2' c2', .slice A3' n3' c3']] w fun e w' => e = .returned (.bool u) ∧ Below w.heap.size w w' := by
  have hg := grdQ
  have hqs := eqlQ_same nma tya
  have D1 := Lib.hid C1
  have D2 := Lib.hid C2
  have D3 := Lib.hid C3
  clear C1 C2 C3
  have L0 := Lib.hid (((Below.refl w.heap.size w).alloc (Nat.le_refl _) (.cells #[.int .i64 ia, .bool pa, .bool qa, .bool ra, .bool sa, .bool ta, .int .i64 da, .string nma, .int .i64 tya, .slice A1 n1 c1, .slice A2 n2 c2, .slice A3 n3 c3] 32)).alloc (by simp) (.cells #[.int .i64 ia, .bool pa, .bool qa, .bool ra, .bool sa, .bool ta, .int .i64 da, .string nma, .int .i64 tya, .slice A1' n1' c1', .slice A2' n2' c2', .slice A3' n3' c3'] 32))
  have X0 : Hid (Mx ((w.alloc (.cells #[.int .i64 ia, .bool pa, .bool qa, .bool ra, .bool sa, .bool ta, .int .i64 da, .string nma, .int .i64 tya, .slice A1 n1 c1, .slice A2 n2 c2, .slice A3 n3 c3] 32)).alloc (.cells #[.int .i64 ia, .bool pa, .bool qa, .bool ra, .bool sa, .bool ta, .int .i64 da, .string nma, .int .i64 tya, .slice A1' n1' c1', .slice A2' n2' c2', .slice A3' n3' c3'] 32)) w.heap.size ⟨ia, pa, qa, ra, sa, ta, da, nma, tya⟩ (.slice A1 n1 c1) (.slice A2 n2 c2) (.slice A3 n3 c3)) := (mx_new w 32 ⟨ia, pa, qa, ra, sa, ta, da, nma, tya⟩ (.slice A1 n1 c1) (.slice A2 n2 c2) (.slice A3 n3 c3)).alloc _
  have Y0 : Hid (Mx ((w.alloc (.cells #[.int .i64 ia, .bool pa, .bool qa, .bool ra, .bool sa, .bool ta, .int .i64 da, .string nma, .int .i64 tya, .slice A1 n1 c1, .slice A2 n2 c2, .slice A3 n3 c3] 32)).alloc (.cells #[.int .i64 ia, .bool pa, .bool qa, .bool ra, .bool sa, .bool ta, .int .i64 da, .string nma, .int .i64 tya, .slice A1' n1' c1', .slice A2' n2' c2', .slice A3' n3' c3'] 32)) (w.heap.size + 1) ⟨ia, pa, qa, ra, sa, ta, da, nma, tya⟩ (.slice A1' n1' c1') (.slice A2' n2' c2') (.slice A3' n3' c3')) := mx_of (h := ⟨ia, pa, qa, ra, sa, ta, da, nma, tya⟩) (x := .slice A1' n1' c1') (y := .slice A2' n2' c2') (z := .slice A3' n3' c3') at2
  go_enter Try.func17, Try.ntmps17
  go_wp2_with fail
  refine (D1.out _ L0.out).mono ?_
  rintro e w1 ⟨rfl, hl⟩
  have L1 := Lib.hid (L0.out.trans (hl.mono L0.out.size))
  have X1 := Lib.hid (X0.out.below hl)
  have Y1 := Lib.hid (Y0.out.below hl)
  clear hl L0 X0 Y0 
  obtain ⟨x0, x1, x2, x3, x4, x5, x6, x7, x8, x9, x10, x11⟩ := X1.out
  obtain ⟨y0, y1, y2, y3, y4, y5, y6, y7, y8, y9, y10, y11⟩ := Y1.out
  go_wp2_with fail
  refine (D2.out _ L1.out).mono ?_
  rintro e w2 ⟨rfl, hl⟩
  have L2 := Lib.hid (L1.out.trans (hl.mono L1.out.size))
  have X2 := Lib.hid (X1.out.below hl)
  have Y2 := Lib.hid (Y1.out.below hl)
  clear hl L1 X1 Y1 x0 x1 x2 x3 x4 x5 x6 x7 x8 x9 x10 x11 y0 y1 y2 y3 y4 y5 y6 y7 y8 y9 y10 y11
  obtain ⟨x0, x1, x2, x3, x4, x5, x6, x7, x8, x9, x10, x11⟩ := X2.out
  obtain ⟨y0, y1, y2, y3, y4, y5, y6, y7, y8, y9, y10, y11⟩ := Y2.out
  go_wp2_with fail
  refine (D3.out _ L2.out).mono ?_
  rintro e w3 ⟨rfl, hl⟩
  have L3 := Lib.hid (L2.out.trans (hl.mono L2.out.size))
  have X3 := Lib.hid (X2.out.below hl)
  have Y3 := Lib.hid (Y2.out.below hl)
  clear hl L2 X2 Y2 x0 x1 x2 x3 x4 x5 x6 x7 x8 x9 x10 x11 y0 y1 y2 y3 y4 y5 y6 y7 y8 y9 y10 y11
  go_wp2
  go_ret
  exact ⟨rfl, L3.out⟩

end Go.Proofs.Ytjgmocmaeadjdaa.SamJ
