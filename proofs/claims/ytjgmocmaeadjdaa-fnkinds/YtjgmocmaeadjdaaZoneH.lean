/- What the model's helpers of drawn zones do: a record of an address, of a server, of a start. -/
import Derived.Test.YtjgmocmaeadjdaaResR
import Derived.Test.YtjgmocmaeadjdaaZoneL
namespace Go.Proofs.Ytjgmocmaeadjdaa.ZoneH
open Go.RowKit Go.Proofs.Ytjgmocmaeadjdaa.Mem Go.Proofs.Ytjgmocmaeadjdaa.MemR Go.Proofs.Ytjgmocmaeadjdaa.ZoneL

set_option maxHeartbeats 1000000 in
theorem l10Addr (s : ByteArray) (n t : Int) (w : World) : Calls Try.prog 78 #[.string s, .int .i64 n, .int .i64 t] w fun e w' => e = .returned (.agg #[.string s, .int .i64 1, .int .i64 t, .int .i64 n, .string ⟨#[]⟩, .string ⟨#[]⟩]) ∧ Below w.heap.size w w' := by
  go_enter Try.func78, Try.ntmps78
  go_wp2
  refine bodyPost_ret (v := .agg #[.string s, .int .i64 1, .int .i64 t, .int .i64 n, .string ⟨#[]⟩, .string ⟨#[]⟩]) (by simp [results, Try.results78, go_sem]; try rfl) rfl ⟨rfl, ?_⟩
  repeat (first | exact Below.refl _ _ | refine Below.setCell ?_ (by simp; try omega) _ | refine Below.alloc ?_ (by simp; try omega) _)

set_option maxHeartbeats 1000000 in
theorem l10Server (s x : ByteArray) (t : Int) (w : World) : Calls Try.prog 77 #[.string s, .string x, .int .i64 t] w fun e w' => e = .returned (.agg #[.string s, .int .i64 2, .int .i64 t, .int .i64 0, .string x, .string ⟨#[]⟩]) ∧ Below w.heap.size w w' := by
  go_enter Try.func77, Try.ntmps77
  go_wp2
  refine bodyPost_ret (v := .agg #[.string s, .int .i64 2, .int .i64 t, .int .i64 0, .string x, .string ⟨#[]⟩]) (by simp [results, Try.results77, go_sem]; try rfl) rfl ⟨rfl, ?_⟩
  repeat (first | exact Below.refl _ _ | refine Below.setCell ?_ (by simp; try omega) _ | refine Below.alloc ?_ (by simp; try omega) _)

set_option maxHeartbeats 1000000 in
theorem l10Start (s : ByteArray) (t h : Int) (ht : (t, h) ∈ (5, 2) :: ts) (w : World) : Calls Try.prog 69 #[.string s, .int .i64 t] w fun e w' => e = .returned (.agg #[.string s, .int .i64 6, .int .i64 t, .int .i64 h, .string ⟨#[]⟩, .string ⟨#[]⟩]) ∧ Below w.heap.size w w' := by
  simp only [ts, List.mem_cons, Prod.mk.injEq, List.not_mem_nil, or_false] at ht
  rcases ht with ⟨rfl, rfl⟩ | ⟨rfl, rfl⟩ | ⟨rfl, rfl⟩ | ⟨rfl, rfl⟩
  all_goals
    go_enter Try.func69, Try.ntmps69
    go_wp2
    refine bodyPost_ret (v := .agg #[.string s, .int .i64 6, .int .i64 _, .int .i64 _, .string ⟨#[]⟩, .string ⟨#[]⟩]) (by simp [results, Try.results69, go_sem]; try rfl) rfl ⟨rfl, ?_⟩
    repeat (first | exact Below.refl _ _ | refine Below.setCell ?_ (by simp; try omega) _ | refine Below.alloc ?_ (by simp; try omega) _)

end Go.Proofs.Ytjgmocmaeadjdaa.ZoneH
