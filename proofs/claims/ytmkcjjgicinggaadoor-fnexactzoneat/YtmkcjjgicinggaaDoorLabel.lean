/- What LabelOk does in the program and in the model: it tells whether a text has 1 to 12 bytes, each of them a small letter, a digit, '-' or '_'. No condition but that the text is no longer than Go lets it be. -/
import Derived.Test.YtmkcjjgicinggaaDoorMem
namespace Go.Proofs.YtmkcjjgicinggaaDoor.Label
open Go.RowKit Go.Proofs.YtmkcjjgicinggaaDoor.Mem

/-- A sign that a label may hold. -/
def okC (c : Int) : Bool := decide ((97 ≤ c ∧ c ≤ 122) ∨ (48 ≤ c ∧ c ≤ 57) ∨ c = 45 ∨ c = 95)
def okB (x : UInt8) : Bool := okC (x.toNat : Int)
/-- The bytes of a label. -/
def lok (l : List UInt8) : Bool := decide (1 ≤ l.length ∧ l.length ≤ 12) && l.all okB

theorem okC_high (c : Int) (h : 128 ≤ c) : okC c = false := by unfold okC; simp; omega

theorem ret_bool {a b : Bool} (h : a = b) : Ending.returned (.bool a) = .returned (.bool b) := by rw [h]

end Go.Proofs.YtmkcjjgicinggaaDoor.Label
