/- What AskMsg does in the program and in the model: a query with this Id and question and nothing else. No condition. -/
import Derived.Test.YtlakegeabnjegaaGreatDoorResM
namespace Go.Proofs.YtlakegeabnjegaaGreatDoor.AskM
open Go.RowKit Go.Proofs.YtlakegeabnjegaaGreatDoor.Mem Go.Proofs.YtlakegeabnjegaaGreatDoor.MemR Go.Proofs.YtlakegeabnjegaaGreatDoor.BoxR Go.Proofs.YtlakegeabnjegaaGreatDoor.MemM Go.Proofs.YtlakegeabnjegaaGreatDoor.ResM

/-- The head of a query. -/
def askh (id : Int) (s : ByteArray) (n : Int) : Hd := ⟨id, false, false, false, false, false, 0, s, n⟩

set_option maxHeartbeats 1000000 in
theorem impl (id : Int) (s : ByteArray) (n : Int) (w : World) : Calls Tryz.prog 8 #[.int .i64 id, .agg #[.string s, .int .i64 n]] w fun e w' => e = .returned (.agg #[.int .i64 (askh id s n).id, .bool (askh id s n).rp, .bool (askh id s n).au, .bool (askh id s n).ct, .bool (askh id s n).wa, .bool (askh id s n).ca, .int .i64 (askh id s n).code, .string (askh id s n).qn, .int .i64 (askh id s n).qt, .slice none 0 0, .slice none 0 0, .slice none 0 0]) ∧ Below w.heap.size w w' := by
  go_enter Tryz.func8, Tryz.ntmps8
  go_wp2
  refine bodyPost_ret (v := .agg #[.int .i64 (askh id s n).id, .bool (askh id s n).rp, .bool (askh id s n).au, .bool (askh id s n).ct, .bool (askh id s n).wa, .bool (askh id s n).ca, .int .i64 (askh id s n).code, .string (askh id s n).qn, .int .i64 (askh id s n).qt, .slice none 0 0, .slice none 0 0, .slice none 0 0]) (by simp [results, Tryz.results8, go_sem, askh]) rfl ⟨rfl, ?_⟩
  repeat (first | exact Below.refl _ _ | refine Below.setCell ?_ (by simp; try omega) _ | refine Below.alloc ?_ (by simp; try omega) _)

set_option maxHeartbeats 1000000 in
theorem spec (id : Int) (s : ByteArray) (n : Int) (w : World) : Calls Tryz.prog 12 #[.int .i64 id, .agg #[.string s, .int .i64 n]] w fun e w' => e = .returned (.agg #[.int .i64 (askh id s n).id, .bool (askh id s n).rp, .bool (askh id s n).au, .bool (askh id s n).ct, .bool (askh id s n).wa, .bool (askh id s n).ca, .int .i64 (askh id s n).code, .string (askh id s n).qn, .int .i64 (askh id s n).qt, .slice none 0 0, .slice none 0 0, .slice none 0 0]) ∧ Below w.heap.size w w' := by
  go_enter Tryz.func12, Tryz.ntmps12
  go_wp2
  refine bodyPost_ret (v := .agg #[.int .i64 (askh id s n).id, .bool (askh id s n).rp, .bool (askh id s n).au, .bool (askh id s n).ct, .bool (askh id s n).wa, .bool (askh id s n).ca, .int .i64 (askh id s n).code, .string (askh id s n).qn, .int .i64 (askh id s n).qt, .slice none 0 0, .slice none 0 0, .slice none 0 0]) (by simp [results, Tryz.results12, go_sem, askh]) rfl ⟨rfl, ?_⟩
  repeat (first | exact Below.refl _ _ | refine Below.setCell ?_ (by simp; try omega) _ | refine Below.alloc ?_ (by simp; try omega) _)

end Go.Proofs.YtlakegeabnjegaaGreatDoor.AskM
