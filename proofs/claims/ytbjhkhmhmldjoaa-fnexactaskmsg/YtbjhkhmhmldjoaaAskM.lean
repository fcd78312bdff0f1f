/- What AskMsg does in the program and in the model: a query with this Id and question and nothing else. No condition. -/
import Derived.Test.YtbjhkhmhmldjoaaResM
namespace Go.Proofs.Ytbjhkhmhmldjoaa.AskM
open Go.RowKit Go.Proofs.Ytbjhkhmhmldjoaa.Mem Go.Proofs.Ytbjhkhmhmldjoaa.MemR Go.Proofs.Ytbjhkhmhmldjoaa.BoxR Go.Proofs.Ytbjhkhmhmldjoaa.MemM Go.Proofs.Ytbjhkhmhmldjoaa.ResM

/-- The head of a query. -/
def askh (id : Int) (s : ByteArray) (n : Int) : Hd := ⟨id, false, false, false, false, false, 0, s, n⟩

set_option maxHeartbeats 1000000 in
theorem impl (id : Int) (s : ByteArray) (n : Int) (w : World) : Calls Try.prog 15 #[.int .i64 id, .agg #[.string s, .int .i64 n]] w fun e w' => e = .returned (.agg #[.int .i64 (askh id s n).id, .bool (askh id s n).rp, .bool (askh id s n).au, .bool (askh id s n).ct, .bool (askh id s n).wa, .bool (askh id s n).ca, .int .i64 (askh id s n).code, .string (askh id s n).qn, .int .i64 (askh id s n).qt, .slice none 0 0, .slice none 0 0, .slice none 0 0]) ∧ Below w.heap.size w w' := by
  go_enter Try.func15, Try.ntmps15
  go_wp2
  refine bodyPost_ret (v := .agg #[.int .i64 (askh id s n).id, .bool (askh id s n).rp, .bool (askh id s n).au, .bool (askh id s n).ct, .bool (askh id s n).wa, .bool (askh id s n).ca, .int .i64 (askh id s n).code, .string (askh id s n).qn, .int .i64 (askh id s n).qt, .slice none 0 0, .slice none 0 0, .slice none 0 0]) (by simp [results, Try.results15, go_sem, askh]) rfl ⟨rfl, ?_⟩
  repeat (first | exact Below.refl _ _ | refine Below.setCell ?_ (by simp; try omega) _ | refine Below.alloc ?_ (by simp; try omega) _)

set_option maxHeartbeats 1000000 in
theorem spec (id : Int) (s : ByteArray) (n : Int) (w : World) : Calls Try.prog 13 #[.int .i64 id, .agg #[.string s, .int .i64 n]] w fun e w' => e = .returned (.agg #[.int .i64 (askh id s n).id, .bool (askh id s n).rp, .bool (askh id s n).au, .bool (askh id s n).ct, .bool (askh id s n).wa, .bool (askh id s n).ca, .int .i64 (askh id s n).code, .string (askh id s n).qn, .int .i64 (askh id s n).qt, .slice none 0 0, .slice none 0 0, .slice none 0 0]) ∧ Below w.heap.size w w' := by
  go_enter Try.func13, Try.ntmps13
  go_wp2
  refine bodyPost_ret (v := .agg #[.int .i64 (askh id s n).id, .bool (askh id s n).rp, .bool (askh id s n).au, .bool (askh id s n).ct, .bool (askh id s n).wa, .bool (askh id s n).ca, .int .i64 (askh id s n).code, .string (askh id s n).qn, .int .i64 (askh id s n).qt, .slice none 0 0, .slice none 0 0, .slice none 0 0]) (by simp [results, Try.results13, go_sem, askh]) rfl ⟨rfl, ?_⟩
  repeat (first | exact Below.refl _ _ | refine Below.setCell ?_ (by simp; try omega) _ | refine Below.alloc ?_ (by simp; try omega) _)

end Go.Proofs.Ytbjhkhmhmldjoaa.AskM
