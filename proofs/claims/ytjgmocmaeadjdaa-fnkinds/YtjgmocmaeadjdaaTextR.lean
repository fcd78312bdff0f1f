/- What textOk does in the program and l5Text in the model: whether a text has at most 12 bytes, each 33 to 126; and upTo. Condition: at most 2^47 bytes. -/
import Derived.Test.YtjgmocmaeadjdaaFold
namespace Go.Proofs.Ytjgmocmaeadjdaa.TextR
open Go.RowKit Go.Proofs.Ytjgmocmaeadjdaa.Mem Go.Proofs.Ytjgmocmaeadjdaa.Label Go.Proofs.Ytjgmocmaeadjdaa.Fold

/-- A byte that a text may hold. -/
def pr (x : UInt8) : Bool := decide (33 ≤ (x.toNat : Int) ∧ (x.toNat : Int) ≤ 126)
/-- A valid text. A def, so that no step of a walk opens it. -/
def txo (s : ByteArray) : Bool := s.data.toList.all pr && decide (s.size ≤ 12)
/-- Whether a number lies between two. -/
def inn (x a b : Int) : Bool := decide (a ≤ x ∧ x ≤ b)
theorem all_step {s : ByteArray} {k : Nat} (h : k < s.size) (hk : (s.data.toList.take k).all pr = true) : (s.data.toList.take (k + 1)).all pr = pr s[k] := by
  rw [List.take_succ_eq_append_getElem (by simpa using h), List.all_append, hk]
  simp
  rfl
theorem all_bad {s : ByteArray} {k : Nat} (h : (s.data.toList.take (k + 1)).all pr = false) : txo s = false := by
  have : s.data.toList.all pr = false := by
    rw [← List.take_append_drop (k + 1) s.data.toList, List.all_append, h]; rfl
  rw [txo, this]; rfl
theorem all_good {s : ByteArray} {k : Nat} (h : (s.data.toList.take k).all pr = true) (hk : s.size ≤ k) : txo s = decide (s.size ≤ 12) := by
  rw [List.take_of_length_le (by simp; omega)] at h
  rw [txo, h]; rfl
theorem too_long {s : ByteArray} (h : 12 < s.size) : txo s = false := by
  rw [txo, decide_eq_false (by omega), Bool.and_false]

theorem l1In_inn (x a b : Int) (w : World) : Calls Try.prog 44 #[.int .i64 x, .int .i64 a, .int .i64 b] w fun e w' => e = .returned (.bool (inn x a b)) ∧ w = w' := l1In_any x a b w

set_option maxHeartbeats 1000000 in
theorem upTo_any (x m : Int) (w : World) : Calls Try.prog 43 #[.int .i64 x, .int .i64 m] w fun e w' => e = .returned (.bool (inn x 0 m)) ∧ w = w' := by
  unfold inn
  go_enter Try.func43, Try.ntmps43
  go_wp2
  all_goals
    go_ret
    refine ⟨ret_bool ?_, rfl⟩
    first | (simp; done) | (simp; omega) | (rw [Bool.eq_iff_iff]; simp; omega)

end Go.Proofs.Ytjgmocmaeadjdaa.TextR
