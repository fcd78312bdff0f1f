/- What RecordOk does in the program and in the model: whether a record is valid. Condition: at most 400000000 bytes in each text; for the program: the library's variable internal/bytealg.MaxLen holds an int. -/
import Derived.Test.YtjgmocmaeadjdaaNameOk
import Derived.Test.YtjgmocmaeadjdaaTextR
import Derived.Test.YtjgmocmaeadjdaaBoxR
namespace Go.Proofs.Ytjgmocmaeadjdaa.RecOk
open Go.RowKit Go.Proofs.Ytjgmocmaeadjdaa.Mem Go.Proofs.Ytjgmocmaeadjdaa.MemR Go.Proofs.Ytjgmocmaeadjdaa.Labels Go.Proofs.Ytjgmocmaeadjdaa.NameOk Go.Proofs.Ytjgmocmaeadjdaa.TextR Go.Proofs.Ytjgmocmaeadjdaa.BoxR

/-- An empty text. -/
def emp (s : ByteArray) : Bool := decide (s.size = 0)
theorem emp_true {s : ByteArray} (h : emp s = true) : s.toList.isEmpty = true := by
  have h : s.size = 0 := of_decide_eq_true h
  rw [ByteArray.toList_eq]
  have hz : s.data.toList.length = s.size := by simp
  rw [h] at hz
  rw [List.eq_nil_of_length_eq_zero hz]; rfl
theorem emp_false {s : ByteArray} (h : emp s = false) : s.toList.isEmpty = false := not_empty s (of_decide_eq_false h)
/-- No number. -/
def nul (n : Int) : Bool := decide (n = 0)
theorem nul_true {n : Int} (h : nul n = true) : (n == 0) = true := beq_iff_eq.2 (of_decide_eq_true h)
theorem nul_false {n : Int} (h : nul n = false) : (n == 0) = false := beq_eq_false_iff_ne.2 (of_decide_eq_false h)
/-- Valid data of a record of this type. -/
def dko (ty n : Int) (host text : ByteArray) : Bool :=
  if ty = 1 then inn n 0 2147483647 && (emp host && emp text) else if ty = 2 ∨ ty = 5 then Nm host && (nul n && emp text) else
  if ty = 6 then Nm host && (inn n 0 100000 && emp text) else if ty = 16 then txo text && (nul n && emp host) else false
/-- A valid record. A def, so that no step of a walk opens it. -/
def rok (r : Rec) : Bool := Nm r.name && (inn r.ttl 0 100000 && dko r.ty r.n r.host r.text)
theorem dko_1 (n : Int) (h t : ByteArray) : dko 1 n h t = (inn n 0 2147483647 && (emp h && emp t)) := rfl
theorem dko_2 (n : Int) (h t : ByteArray) : dko 2 n h t = (Nm h && (nul n && emp t)) := rfl
theorem dko_5 (n : Int) (h t : ByteArray) : dko 5 n h t = (Nm h && (nul n && emp t)) := rfl
theorem dko_6 (n : Int) (h t : ByteArray) : dko 6 n h t = (Nm h && (inn n 0 100000 && emp t)) := rfl
theorem dko_16 (n : Int) (h t : ByteArray) : dko 16 n h t = (txo t && (nul n && emp h)) := rfl
theorem dko_none {ty : Int} (n : Int) (h t : ByteArray) (h1 : ty ≠ 1) (h2 : ty ≠ 2) (h5 : ty ≠ 5) (h6 : ty ≠ 6) (h16 : ty ≠ 16) : dko ty n h t = false := by
  unfold dko
  rw [if_neg h1, if_neg (by omega), if_neg h6, if_neg h16]
theorem lead (a b c : Bool) : (a && (b && c)) = (b && (a && c)) := by cases a <;> cases b <;> rfl
theorem last (a b c : Bool) : (a && (b && c)) = (b && (c && a)) := by cases a <;> cases b <;> cases c <;> rfl
/-- The texts of a record are not too long. -/
def Mod (r : Rec) : Prop := r.name.size ≤ 400000000 ∧ r.host.size ≤ 400000000 ∧ r.text.size ≤ 400000000

end Go.Proofs.Ytjgmocmaeadjdaa.RecOk
