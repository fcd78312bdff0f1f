/- What TypeText and TypeOk do, in the program and in the model: the text of a type, empty for a number that is no type. No condition. -/
import Derived.Test.YtlakegeabnjegaaGreatDoorRows
import Derived.WalkKit
import Derived.Lib.Hide
namespace Go.Proofs.YtlakegeabnjegaaGreatDoor.Types
open Go.RowKit

/-- The text of a type. A def, so that no step of a walk opens it. -/
def tt (n : Int) : ByteArray := if n = 1 then ⟨#[97, 100, 100, 114]⟩ else if n = 2 then ⟨#[115, 101, 114, 118, 101, 114]⟩ else if n = 5 then ⟨#[97, 108, 105, 97, 115]⟩ else if n = 6 then ⟨#[115, 116, 97, 114, 116]⟩ else if n = 16 then ⟨#[116, 101, 120, 116]⟩ else ⟨#[]⟩
/-- Whether a number is a type. -/
def ty (n : Int) : Bool := decide (n = 1 ∨ n = 2 ∨ n = 5 ∨ n = 6 ∨ n = 16)
theorem tt_none {n : Int} (h1 : n ≠ 1) (h2 : n ≠ 2) (h3 : n ≠ 5) (h4 : n ≠ 6) (h5 : n ≠ 16) : tt n = ⟨#[]⟩ := by
  unfold tt
  rw [if_neg h1, if_neg h2, if_neg h3, if_neg h4, if_neg h5]
theorem ty_none {n : Int} (h1 : n ≠ 1) (h2 : n ≠ 2) (h3 : n ≠ 5) (h4 : n ≠ 6) (h5 : n ≠ 16) : ty n = false := decide_eq_false (by omega)

theorem impl_text (n : Int) (w : World) : Calls Tryz.prog 40 #[.int .i64 n] w fun e w' => e = .returned (.string (tt n)) ∧ w = w' := by
  by_cases h1 : n = 1
  · subst h1; go_enter Tryz.func40, Tryz.ntmps40; go_wp2; go_ret; exact ⟨rfl, rfl⟩
  by_cases h2 : n = 2
  · subst h2; go_enter Tryz.func40, Tryz.ntmps40; go_wp2; go_ret; exact ⟨rfl, rfl⟩
  by_cases h3 : n = 5
  · subst h3; go_enter Tryz.func40, Tryz.ntmps40; go_wp2; go_ret; exact ⟨rfl, rfl⟩
  by_cases h4 : n = 6
  · subst h4; go_enter Tryz.func40, Tryz.ntmps40; go_wp2; go_ret; exact ⟨rfl, rfl⟩
  by_cases h5 : n = 16
  · subst h5; go_enter Tryz.func40, Tryz.ntmps40; go_wp2; go_ret; exact ⟨rfl, rfl⟩
  have H := Lib.hid (tt_none h1 h2 h3 h4 h5)
  go_enter Tryz.func40, Tryz.ntmps40; go_wp2; go_ret; exact ⟨by rw [H.out]; rfl, rfl⟩

theorem spec_text (n : Int) (w : World) : Calls Tryz.prog 46 #[.int .i64 n] w fun e w' => e = .returned (.string (tt n)) ∧ w = w' := by
  by_cases h1 : n = 1
  · subst h1; go_enter Tryz.func46, Tryz.ntmps46; go_wp2; go_ret; exact ⟨rfl, rfl⟩
  by_cases h2 : n = 2
  · subst h2; go_enter Tryz.func46, Tryz.ntmps46; go_wp2; go_ret; exact ⟨rfl, rfl⟩
  by_cases h3 : n = 5
  · subst h3; go_enter Tryz.func46, Tryz.ntmps46; go_wp2; go_ret; exact ⟨rfl, rfl⟩
  by_cases h4 : n = 6
  · subst h4; go_enter Tryz.func46, Tryz.ntmps46; go_wp2; go_ret; exact ⟨rfl, rfl⟩
  by_cases h5 : n = 16
  · subst h5; go_enter Tryz.func46, Tryz.ntmps46; go_wp2; go_ret; exact ⟨rfl, rfl⟩
  have H := Lib.hid (tt_none h1 h2 h3 h4 h5)
  go_enter Tryz.func46, Tryz.ntmps46; go_wp2; go_ret; exact ⟨by rw [H.out]; rfl, rfl⟩

theorem spec_ok (n : Int) (w : World) : Calls Tryz.prog 62 #[.int .i64 n] w fun e w' => e = .returned (.bool (ty n)) ∧ w = w' := by
  by_cases h1 : n = 1
  · subst h1; go_enter Tryz.func62, Tryz.ntmps62; go_wp2; go_ret; exact ⟨rfl, rfl⟩
  by_cases h2 : n = 2
  · subst h2; go_enter Tryz.func62, Tryz.ntmps62; go_wp2; go_ret; exact ⟨rfl, rfl⟩
  by_cases h3 : n = 5
  · subst h3; go_enter Tryz.func62, Tryz.ntmps62; go_wp2; go_ret; exact ⟨rfl, rfl⟩
  by_cases h4 : n = 6
  · subst h4; go_enter Tryz.func62, Tryz.ntmps62; go_wp2; go_ret; exact ⟨rfl, rfl⟩
  by_cases h5 : n = 16
  · subst h5; go_enter Tryz.func62, Tryz.ntmps62; go_wp2; go_ret; exact ⟨rfl, rfl⟩
  have H := Lib.hid (ty_none h1 h2 h3 h4 h5)
  have e1 : (n == 1) = false := beq_eq_false_iff_ne.2 h1
  have e2 : (n == 2) = false := beq_eq_false_iff_ne.2 h2
  have e3 : (n == 5) = false := beq_eq_false_iff_ne.2 h3
  have e4 : (n == 6) = false := beq_eq_false_iff_ne.2 h4
  have e5 : (n == 16) = false := beq_eq_false_iff_ne.2 h5
  go_enter Tryz.func62, Tryz.ntmps62; go_wp2; go_ret; exact ⟨by rw [H.out]; rfl, rfl⟩

theorem impl_ok (n : Int) (w : World) : Calls Tryz.prog 59 #[.int .i64 n] w fun e w' => e = .returned (.bool (ty n)) ∧ w = w' := by
  have C := Lib.hid (impl_text n w)
  by_cases h : ty n = true
  · have hn : n = 1 ∨ n = 2 ∨ n = 5 ∨ n = 6 ∨ n = 16 := of_decide_eq_true h
    have hz : (tt n).toList.isEmpty = false := by
      have he : (tt n).data.toList ≠ [] := by rcases hn with rfl | rfl | rfl | rfl | rfl <;> simp [tt]
      rw [ByteArray.toList_eq]
      cases e : (tt n).data.toList with
      | nil => exact absurd e he
      | cons => rfl
    have hy : (!(tt n).toList.isEmpty) = true := by rw [hz]; rfl
    have H := Lib.hid h
    clear h hn
    go_enter Tryz.func59, Tryz.ntmps59
    go_wp2_with fail
    refine C.out.mono ?_
    rintro e w' ⟨rfl, rfl⟩
    go_wp2
    go_ret
    exact ⟨by rw [H.out]; rfl, rfl⟩
  · have h : ¬ (n = 1 ∨ n = 2 ∨ n = 5 ∨ n = 6 ∨ n = 16) := fun k => h (decide_eq_true k)
    have H := Lib.hid (ty_none (n := n) (by omega) (by omega) (by omega) (by omega) (by omega))
    have K := Lib.hid (tt_none (n := n) (by omega) (by omega) (by omega) (by omega) (by omega))
    clear h
    go_enter Tryz.func59, Tryz.ntmps59
    go_wp2_with fail
    refine C.out.mono ?_
    rw [K.out]
    rintro e w' ⟨rfl, rfl⟩
    go_wp2
    go_ret
    exact ⟨by rw [H.out]; rfl, rfl⟩

end Go.Proofs.YtlakegeabnjegaaGreatDoor.Types
