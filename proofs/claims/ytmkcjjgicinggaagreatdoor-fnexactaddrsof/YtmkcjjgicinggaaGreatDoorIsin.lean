/- Plain facts: whether an element is in a list. -/
import Derived.Test.YtmkcjjgicinggaaGreatDoorSetMath
namespace Go.Proofs.YtmkcjjgicinggaaGreatDoor.Isin
open Go.Proofs.YtmkcjjgicinggaaGreatDoor.SetMath

/-- Whether x is in the list. -/
noncomputable def isin {α : Type} (l : List α) (x : α) : Bool := @decide (x ∈ l) (Classical.propDecidable _)

theorem isin_true {α : Type} {l : List α} {x : α} (h : x ∈ l) : isin l x = true := @decide_eq_true _ (Classical.propDecidable _) h

theorem isin_false {α : Type} {l : List α} {x : α} (h : x ∉ l) : isin l x = false := @decide_eq_false _ (Classical.propDecidable _) h

theorem not_zero {α : Type} (l : List α) (x : α) : x ∉ l.take 0 := by simp

theorem isin_at {α : Type} (l : List α) (x : α) (k : Nat) (h : k < l.length) : l[k] = x → isin l x = true := fun e => isin_true (e ▸ List.getElem_mem h)

theorem not_next {α : Type} (l : List α) (x : α) (k : Nat) (h : k < l.length) : x ∉ l.take k → ¬ l[k] = x → x ∉ l.take (k + 1) := by
  intro h1 h2
  rw [List.take_succ_eq_append_getElem h, List.mem_append, List.mem_singleton]
  exact fun h3 => h3.elim h1 (fun e => h2 e.symm)

theorem bytes_ne {a b : ByteArray} (h : ¬ a = b) : (a.toList == b.toList) = false := by
  cases e : (a.toList == b.toList) with
  | false => rfl
  | true =>
    have := eq_of_beq e
    rw [ByteArray.toList_eq, ByteArray.toList_eq] at this
    exact absurd (by cases a; cases b; congr; exact Array.toList_inj.1 this) h

end Go.Proofs.YtmkcjjgicinggaaGreatDoor.Isin
