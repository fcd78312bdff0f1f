/- What CountsOf does in the program and in the model: the number of records of the three sections. Condition: fewer than 400000001 records in each section. -/
import Derived.Test.YtlakegeabnjegaaGreatDoorResM
namespace Go.Proofs.YtlakegeabnjegaaGreatDoor.CntM
open Go.RowKit Go.Proofs.YtlakegeabnjegaaGreatDoor.Mem Go.Proofs.YtlakegeabnjegaaGreatDoor.MemR Go.Proofs.YtlakegeabnjegaaGreatDoor.BoxR Go.Proofs.YtlakegeabnjegaaGreatDoor.MemM Go.Proofs.YtlakegeabnjegaaGreatDoor.ResM

set_option maxHeartbeats 1000000 in
theorem impl (h : Hd) (A1 A2 A3 : Option Addr) (n1 c1 n2 c2 n3 c3 : Nat) (w : World) (m1 : n1 ≤ 400000000) (m2 : n2 ≤ 400000000) (m3 : n3 ≤ 400000000) : Calls Tryz.prog 18 #[.agg #[.int .i64 h.id, .bool h.rp, .bool h.au, .bool h.ct, .bool h.wa, .bool h.ca, .int .i64 h.code, .string h.qn, .int .i64 h.qt, .slice A1 n1 c1, .slice A2 n2 c2, .slice A3 n3 c3]] w fun e w' => e = .returned (.int .i64 ((n1 : Int) + (n2 : Int) + (n3 : Int))) ∧ Below w.heap.size w w' := by
  go_enter Tryz.func18, Tryz.ntmps18
  go_wp2
  go_ret
  exact ⟨rfl, (Below.refl _ _).alloc (Nat.le_refl _) _⟩

set_option maxHeartbeats 1000000 in
theorem spec (h : Hd) (A1 A2 A3 : Option Addr) (n1 c1 n2 c2 n3 c3 : Nat) (w : World) (m1 : n1 ≤ 400000000) (m2 : n2 ≤ 400000000) (m3 : n3 ≤ 400000000) : Calls Tryz.prog 19 #[.agg #[.int .i64 h.id, .bool h.rp, .bool h.au, .bool h.ct, .bool h.wa, .bool h.ca, .int .i64 h.code, .string h.qn, .int .i64 h.qt, .slice A1 n1 c1, .slice A2 n2 c2, .slice A3 n3 c3]] w fun e w' => e = .returned (.int .i64 ((n1 : Int) + (n2 : Int) + (n3 : Int))) ∧ Below w.heap.size w w' := by
  go_enter Tryz.func19, Tryz.ntmps19
  go_wp2
  go_ret
  exact ⟨rfl, (Below.refl _ _).alloc (Nat.le_refl _) _⟩

end Go.Proofs.YtlakegeabnjegaaGreatDoor.CntM
