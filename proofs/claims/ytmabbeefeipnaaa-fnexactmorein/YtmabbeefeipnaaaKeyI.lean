/- What keyOf and KeysOf do in the program: the name and the type of a record; the keys of all records, each once. Condition: fewer than 400000001 records. -/
import Derived.Test.YtmabbeefeipnaaaFstQ
namespace Go.Proofs.Ytmabbeefeipnaaa.KeyI
open Go.RowKit Go.Proofs.Ytmabbeefeipnaaa.Mem Go.Proofs.Ytmabbeefeipnaaa.MemR Go.Proofs.Ytmabbeefeipnaaa.SetMath Go.Proofs.Ytmabbeefeipnaaa.MemQ

set_option maxHeartbeats 1000000 in
theorem keyOf (r : Rec) (w : World) : Calls Try.prog 62 #[.agg #[.string r.name, .int .i64 r.ty, .int .i64 r.ttl, .int .i64 r.n, .string r.host, .string r.text]] w fun e w' => e = .returned (.agg #[.string r.name, .int .i64 r.ty]) ∧ Below w.heap.size w w' := by
  go_enter Try.func62, Try.ntmps62
  go_wp2
  refine bodyPost_ret (v := .agg #[.string r.name, .int .i64 r.ty]) (by simp [results, Try.results62, go_sem]) rfl ⟨rfl, ?_⟩
  repeat (first | exact Below.refl _ _ | refine Below.setCell ?_ (by simp; try omega) _ | refine Below.alloc ?_ (by simp; try omega) _)

end Go.Proofs.Ytmabbeefeipnaaa.KeyI
