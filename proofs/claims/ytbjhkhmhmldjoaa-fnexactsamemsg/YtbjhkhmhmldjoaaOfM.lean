/- What the program's messageOf does: the same fields in another struct; and the sections of it by number. No condition. -/
import Derived.Test.YtbjhkhmhmldjoaaResM
namespace Go.Proofs.Ytbjhkhmhmldjoaa.OfM
open Go.RowKit Go.Proofs.Ytbjhkhmhmldjoaa.Mem Go.Proofs.Ytbjhkhmhmldjoaa.MemR Go.Proofs.Ytbjhkhmhmldjoaa.MemM Go.Proofs.Ytbjhkhmhmldjoaa.ResM

set_option maxHeartbeats 2000000 in
theorem ofI (h : Hd) (A1 A2 A3 : Option Addr) (n1 c1 n2 c2 n3 c3 : Nat) (w : World) : Calls Try.prog 27 #[.agg #[.int .i64 h.id, .bool h.rp, .bool h.au, .bool h.ct, .bool h.wa, .bool h.ca, .int .i64 h.code, .string h.qn, .int .i64 h.qt, .slice A1 n1 c1, .slice A2 n2 c2, .slice A3 n3 c3]] w fun e w' => e = .returned (.agg #[.int .i64 h.id, .bool h.rp, .bool h.au, .bool h.ct, .bool h.wa, .bool h.ca, .int .i64 h.code, .string h.qn, .int .i64 h.qt, .slice A1 n1 c1, .slice A2 n2 c2, .slice A3 n3 c3]) ∧ Below w.heap.size w w' := by
  go_enter Try.func27, Try.ntmps27
  go_wp2
  refine bodyPost_ret (v := .agg #[.int .i64 h.id, .bool h.rp, .bool h.au, .bool h.ct, .bool h.wa, .bool h.ca, .int .i64 h.code, .string h.qn, .int .i64 h.qt, .slice A1 n1 c1, .slice A2 n2 c2, .slice A3 n3 c3]) (by simp [results, Try.results27, go_sem]) rfl ⟨rfl, ?_⟩
  repeat (first | exact Below.refl _ _ | refine Below.setCell ?_ (by simp; try omega) _ | refine Below.alloc ?_ (by simp; try omega) _)

theorem at0 (A1 A2 A3 : Option Addr) (n1 c1 n2 c2 n3 c3 : Nat) (W : World) : Sem.run Try.prog (Instr.index 50 (.agg #[.slice A1 n1 c1, .slice A2 n2 c2, .slice A3 n3 c3]) (.int .i64 0)) W = .ok (.slice A1 n1 c1) W := by
  simp [Instr.index, go_sem]

theorem at1' (A1 A2 A3 : Option Addr) (n1 c1 n2 c2 n3 c3 : Nat) (W : World) : Sem.run Try.prog (Instr.index 50 (.agg #[.slice A1 n1 c1, .slice A2 n2 c2, .slice A3 n3 c3]) (.int .i64 1)) W = .ok (.slice A2 n2 c2) W := by
  simp [Instr.index, go_sem]

theorem at2' (A1 A2 A3 : Option Addr) (n1 c1 n2 c2 n3 c3 : Nat) (W : World) : Sem.run Try.prog (Instr.index 50 (.agg #[.slice A1 n1 c1, .slice A2 n2 c2, .slice A3 n3 c3]) (.int .i64 2)) W = .ok (.slice A3 n3 c3) W := by
  simp [Instr.index, go_sem]

end Go.Proofs.Ytbjhkhmhmldjoaa.OfM
