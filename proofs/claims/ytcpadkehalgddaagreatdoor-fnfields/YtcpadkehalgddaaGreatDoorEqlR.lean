/- Two records that are the same, compared with == : true, and nothing is turned. -/
import Derived.Test.YtcpadkehalgddaaGreatDoorMemR
import Derived.Laws.StructEq
namespace Go.Proofs.YtcpadkehalgddaaGreatDoor.EqlR
open Go.RowKit Go.Proofs.YtcpadkehalgddaaGreatDoor.Mem Go.Proofs.YtcpadkehalgddaaGreatDoor.MemR

theorem eql_same (r : Rec) (w : World) : Sem.run Tryz.prog (binOp .eql 25 (.agg #[.string r.name, .int .i64 r.ty, .int .i64 r.ttl, .int .i64 r.n, .string r.host, .string r.text]) (.agg #[.string r.name, .int .i64 r.ty, .int .i64 r.ttl, .int .i64 r.n, .string r.host, .string r.text])) w = .ok (.bool true) w := by
  have u3 := Tryz.underlying3
  have a3 := Tryz.isAgg3
  have z3 := Tryz.sizeOf3
  have u9 := Tryz.underlying9
  have a9 := Tryz.isAgg9
  have z9 := Tryz.sizeOf9
  have hS : Tryz.prog.underlying 25 = some (.struct (Tryz.prog.fieldsOf 25)) := by kernel_rfl
  have hp : Tryz.prog.stoodInHeld 25 = false := by kernel_rfl
  rw [run_eql_struct, show (10000 : Nat) = 9999 + 1 from rfl, run_equalIn_agg w 9999 25 _ _ hS hp]
  simp only [Program.fieldsOf, Tryz.underlying25]
  go_simp

theorem grd : Tryz.prog.eqGuardType Tryz.prog.depth 25 = false := by kernel_rfl
end Go.Proofs.YtcpadkehalgddaaGreatDoor.EqlR
