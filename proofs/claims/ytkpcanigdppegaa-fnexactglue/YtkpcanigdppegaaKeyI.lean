/- What keyOf and KeysOf do in the program: the name and the type of a record; the keys of all records, each once. Condition: fewer than 400000001 records. -/
import Derived.Test.YtkpcanigdppegaaFstQ
namespace Go.Proofs.Ytkpcanigdppegaa.KeyI
open Go.RowKit Go.Proofs.Ytkpcanigdppegaa.Mem Go.Proofs.Ytkpcanigdppegaa.MemR Go.Proofs.Ytkpcanigdppegaa.SetMath Go.Proofs.Ytkpcanigdppegaa.MemQ

set_option maxHeartbeats 1000000 in
theorem keyOf (r : Rec) (w : World) : Calls Try.prog 47 #[.agg #[.string r.name, .int .i64 r.ty, .int .i64 r.ttl, .int .i64 r.n, .string r.host, .string r.text]] w fun e w' => e = .returned (.agg #[.string r.name, .int .i64 r.ty]) ∧ Below w.heap.size w w' := by
  go_enter Try.func47, Try.ntmps47
  go_wp2
  refine bodyPost_ret (v := .agg #[.string r.name, .int .i64 r.ty]) (by simp [results, Try.results47, go_sem]) rfl ⟨rfl, ?_⟩
  repeat (first | exact Below.refl _ _ | refine Below.setCell ?_ (by simp; try omega) _ | refine Below.alloc ?_ (by simp; try omega) _)

end Go.Proofs.Ytkpcanigdppegaa.KeyI
