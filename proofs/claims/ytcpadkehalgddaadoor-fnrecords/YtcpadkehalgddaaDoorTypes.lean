/- What TypeText and TypeOk do, in the program and in the model: the text of a type, empty for a number that is no type. No condition. -/
import Derived.Test.YtcpadkehalgddaaDoorRows
import Derived.WalkKit
import Derived.Lib.Hide
namespace Go.Proofs.YtcpadkehalgddaaDoor.Types
open Go.RowKit

/-- The text of a type. A def, so that no step of a walk opens it. -/
def tt (n : Int) : ByteArray := if n = 1 then ⟨#[97, 100, 100, 114]⟩ else if n = 2 then ⟨#[115, 101, 114, 118, 101, 114]⟩ else if n = 5 then ⟨#[97, 108, 105, 97, 115]⟩ else if n = 6 then ⟨#[115, 116, 97, 114, 116]⟩ else if n = 16 then ⟨#[116, 101, 120, 116]⟩ else ⟨#[]⟩
/-- Whether a number is a type. -/
def ty (n : Int) : Bool := decide (n = 1 ∨ n = 2 ∨ n = 5 ∨ n = 6 ∨ n = 16)
theorem tt_none {n : Int} (h1 : n ≠ 1) (h2 : n ≠ 2) (h3 : n ≠ 5) (h4 : n ≠ 6) (h5 : n ≠ 16) : tt n = ⟨#[]⟩ := by
  unfold tt
  rw [if_neg h1, if_neg h2, if_neg h3, if_neg h4, if_neg h5]
theorem ty_none {n : Int} (h1 : n ≠ 1) (h2 : n ≠ 2) (h3 : n ≠ 5) (h4 : n ≠ 6) (h5 : n ≠ 16) : ty n = false := decide_eq_false (by omega)

theorem impl_text (n : Int) (w : World) : Calls Tryd.prog 55 #[.int .i64 n] w fun e w' => e = .returned (.string (tt n)) ∧ w = w' := by
  by_cases h1 : n = 1
  · subst h1; go_enter Tryd.func55, Tryd.ntmps55; go_wp2; go_ret; exact ⟨rfl, rfl⟩
  by_cases h2 : n = 2
  · subst h2; go_enter Tryd.func55, Tryd.ntmps55; go_wp2; go_ret; exact ⟨rfl, rfl⟩
  by_cases h3 : n = 5
  · subst h3; go_enter Tryd.func55, Tryd.ntmps55; go_wp2; go_ret; exact ⟨rfl, rfl⟩
  by_cases h4 : n = 6
  · subst h4; go_enter Tryd.func55, Tryd.ntmps55; go_wp2; go_ret; exact ⟨rfl, rfl⟩
  by_cases h5 : n = 16
  · subst h5; go_enter Tryd.func55, Tryd.ntmps55; go_wp2; go_ret; exact ⟨rfl, rfl⟩
  have H := Lib.hid (tt_none h1 h2 h3 h4 h5)
  go_enter Tryd.func55, Tryd.ntmps55; go_wp2; go_ret; exact ⟨by rw [H.out]; rfl, rfl⟩

theorem spec_text (n : Int) (w : World) : Calls Tryd.prog 60 #[.int .i64 n] w fun e w' => e = .returned (.string (tt n)) ∧ w = w' := by
  by_cases h1 : n = 1
  · subst h1; go_enter Tryd.func60, Tryd.ntmps60; go_wp2; go_ret; exact ⟨rfl, rfl⟩
  by_cases h2 : n = 2
  · subst h2; go_enter Tryd.func60, Tryd.ntmps60; go_wp2; go_ret; exact ⟨rfl, rfl⟩
  by_cases h3 : n = 5
  · subst h3; go_enter Tryd.func60, Tryd.ntmps60; go_wp2; go_ret; exact ⟨rfl, rfl⟩
  by_cases h4 : n = 6
  · subst h4; go_enter Tryd.func60, Tryd.ntmps60; go_wp2; go_ret; exact ⟨rfl, rfl⟩
  by_cases h5 : n = 16
  · subst h5; go_enter Tryd.func60, Tryd.ntmps60; go_wp2; go_ret; exact ⟨rfl, rfl⟩
  have H := Lib.hid (tt_none h1 h2 h3 h4 h5)
  go_enter Tryd.func60, Tryd.ntmps60; go_wp2; go_ret; exact ⟨by rw [H.out]; rfl, rfl⟩

theorem spec_ok (n : Int) (w : World) : Calls Tryd.prog 71 #[.int .i64 n] w fun e w' => e = .returned (.bool (ty n)) ∧ w = w' := by
  by_cases h1 : n = 1
  · subst h1; go_enter Tryd.func71, Tryd.ntmps71; go_wp2; go_ret; exact ⟨rfl, rfl⟩
  by_cases h2 : n = 2
  · subst h2; go_enter Tryd.func71, Tryd.ntmps71; go_wp2; go_ret; exact ⟨rfl, rfl⟩
  by_cases h3 : n = 5
  · subst h3; go_enter Tryd.func71, Tryd.ntmps71; go_wp2; go_ret; exact ⟨rfl, rfl⟩
  by_cases h4 : n = 6
  · subst h4; go_enter Tryd.func71, Tryd.ntmps71; go_wp2; go_ret; exact ⟨rfl, rfl⟩
  by_cases h5 : n = 16
  · subst h5; go_enter Tryd.func71, Tryd.ntmps71; go_wp2; go_ret; exact ⟨rfl, rfl⟩
  have H := Lib.hid (ty_none h1 h2 h3 h4 h5)
  have e1 : (n == 1) = false := beq_eq_false_iff_ne.2 h1
  have e2 : (n == 2) = false := beq_eq_false_iff_ne.2 h2
  have e3 : (n == 5) = false := beq_eq_false_iff_ne.2 h3
  have e4 : (n == 6) = false := beq_eq_false_iff_ne.2 h4
  have e5 : (n == 16) = false := beq_eq_false_iff_ne.2 h5
  go_enter Tryd.func71, Tryd.ntmps71; go_wp2; go_ret; exact ⟨by rw [H.out]; rfl, rfl⟩

end Go.Proofs.YtcpadkehalgddaaDoor.Types
