/- What LabelOk does in the program and in the model: it tells whether a text has 1 to 12 bytes, each of them a small letter, a digit, '-' or '_'. No condition but that the text is no longer than Go lets it be. -/
import Derived.Test.YtjgmocmaeadjdaaMem
namespace Go.Proofs.Ytjgmocmaeadjdaa.Label
open Go.RowKit Go.Proofs.Ytjgmocmaeadjdaa.Mem

/-- A sign that a label may hold. -/
def okC (c : Int) : Bool := decide ((97 ≤ c ∧ c ≤ 122) ∨ (48 ≤ c ∧ c ≤ 57) ∨ c = 45 ∨ c = 95)
def okB (x : UInt8) : Bool := okC (x.toNat : Int)
/-- The bytes of a label. -/
def lok (l : List UInt8) : Bool := decide (1 ≤ l.length ∧ l.length ≤ 12) && l.all okB

theorem okC_high (c : Int) (h : 128 ≤ c) : okC c = false := by unfold okC; simp; omega

theorem ret_bool {a b : Bool} (h : a = b) : Ending.returned (.bool a) = .returned (.bool b) := by rw [h]

set_option maxHeartbeats 1000000 in
theorem l1In_any (x a b : Int) (w : World) : Calls Try.prog 44 #[.int .i64 x, .int .i64 a, .int .i64 b] w fun e w' => e = .returned (.bool (decide (a ≤ x ∧ x ≤ b))) ∧ w = w' := by
  go_enter Try.func44, Try.ntmps44
  go_wp2
  all_goals
    go_ret
    refine ⟨ret_bool ?_, rfl⟩
    first | (simp; done) | (simp; omega) | (rw [Bool.eq_iff_iff]; simp; omega)

end Go.Proofs.Ytjgmocmaeadjdaa.Label
