/- What the model's helpers of drawn zones do: a record of an address, of a server, of a start. -/
import Derived.Test.YtmabbeefeipnaaaGreatDoorResR
import Derived.Test.YtmabbeefeipnaaaGreatDoorZoneL
namespace Go.Proofs.YtmabbeefeipnaaaGreatDoor.ZoneH
open Go.RowKit Go.Proofs.YtmabbeefeipnaaaGreatDoor.Mem Go.Proofs.YtmabbeefeipnaaaGreatDoor.MemR Go.Proofs.YtmabbeefeipnaaaGreatDoor.ZoneL

set_option maxHeartbeats 1000000 in
theorem l10Addr (s : ByteArray) (n t : Int) (w : World) : Calls Tryz.prog 42 #[.string s, .int .i64 n, .int .i64 t] w fun e w' => e = .returned (.agg #[.string s, .int .i64 1, .int .i64 t, .int .i64 n, .string ⟨#[]⟩, .string ⟨#[]⟩]) ∧ Below w.heap.size w w' := by
  go_enter Tryz.func42, Tryz.ntmps42
  go_wp2
  refine bodyPost_ret (v := .agg #[.string s, .int .i64 1, .int .i64 t, .int .i64 n, .string ⟨#[]⟩, .string ⟨#[]⟩]) (by simp [results, Tryz.results42, go_sem]; try rfl) rfl ⟨rfl, ?_⟩
  repeat (first | exact Below.refl _ _ | refine Below.setCell ?_ (by simp; try omega) _ | refine Below.alloc ?_ (by simp; try omega) _)

set_option maxHeartbeats 1000000 in
theorem l10Server (s x : ByteArray) (t : Int) (w : World) : Calls Tryz.prog 41 #[.string s, .string x, .int .i64 t] w fun e w' => e = .returned (.agg #[.string s, .int .i64 2, .int .i64 t, .int .i64 0, .string x, .string ⟨#[]⟩]) ∧ Below w.heap.size w w' := by
  go_enter Tryz.func41, Tryz.ntmps41
  go_wp2
  refine bodyPost_ret (v := .agg #[.string s, .int .i64 2, .int .i64 t, .int .i64 0, .string x, .string ⟨#[]⟩]) (by simp [results, Tryz.results41, go_sem]; try rfl) rfl ⟨rfl, ?_⟩
  repeat (first | exact Below.refl _ _ | refine Below.setCell ?_ (by simp; try omega) _ | refine Below.alloc ?_ (by simp; try omega) _)

set_option maxHeartbeats 1000000 in
theorem l10Start (s : ByteArray) (t h : Int) (ht : (t, h) ∈ (5, 2) :: ts) (w : World) : Calls Tryz.prog 40 #[.string s, .int .i64 t] w fun e w' => e = .returned (.agg #[.string s, .int .i64 6, .int .i64 t, .int .i64 h, .string ⟨#[]⟩, .string ⟨#[]⟩]) ∧ Below w.heap.size w w' := by
  simp only [ts, List.mem_cons, Prod.mk.injEq, List.not_mem_nil, or_false] at ht
  rcases ht with ⟨rfl, rfl⟩ | ⟨rfl, rfl⟩ | ⟨rfl, rfl⟩ | ⟨rfl, rfl⟩
  all_goals
    go_enter Tryz.func40, Tryz.ntmps40
    go_wp2
    refine bodyPost_ret (v := .agg #[.string s, .int .i64 6, .int .i64 _, .int .i64 _, .string ⟨#[]⟩, .string ⟨#[]⟩]) (by simp [results, Tryz.results40, go_sem]; try rfl) rfl ⟨rfl, ?_⟩
    repeat (first | exact Below.refl _ _ | refine Below.setCell ?_ (by simp; try omega) _ | refine Below.alloc ?_ (by simp; try omega) _)

end Go.Proofs.YtmabbeefeipnaaaGreatDoor.ZoneH
