/- What CodeName does in the program and in the model: it returns the code's name, none for a number that is no code. -/
import Derived.Test.YtpjkfionhjbjiaaDoorLabel
namespace Go.Proofs.YtpjkfionhjbjiaaDoor.CodeName
open Go.RowKit Go.Proofs.YtpjkfionhjbjiaaDoor.Mem

/-- The names of the codes. A def, so that no step of a walk opens it. -/
def names : List ByteArray := [⟨#[103, 111, 111, 100]⟩, ⟨#[115, 104, 111, 114, 116]⟩, ⟨#[102, 111, 114, 109]⟩, ⟨#[106, 117, 109, 112]⟩, ⟨#[108, 111, 110, 103]⟩]
def Cn (k : Int) : ByteArray := if 0 ≤ k then names.getD k.toNat ⟨#[]⟩ else ⟨#[]⟩
theorem cn_out (k : Int) (h : k < 0 ∨ 4 < k) : Cn k = ⟨#[]⟩ := by
  unfold Cn
  split
  · rw [List.getD_eq_getElem?_getD, List.getElem?_eq_none (by simp [names]; omega)]
    rfl
  · rfl

set_option maxHeartbeats 1000000 in
theorem impl (k : Int) (w : World) : Calls Tryd.prog 27 #[.int .i64 k] w fun e w' => e = .returned (.string (Cn k)) ∧ Below w.heap.size w w' := by
  by_cases h : k = 0 ∨ k = 1 ∨ k = 2 ∨ k = 3 ∨ k = 4
  · rcases h with rfl | rfl | rfl | rfl | rfl
    all_goals
      go_enter Tryd.func27, Tryd.ntmps27
      go_wp2
      go_ret
      exact ⟨rfl, Below.refl _ _⟩
  · have HC := Lib.hid (cn_out k (by omega))
    have h0 : (k == 0) = false := by rw [beq_eq_false_iff_ne]; omega
    have h1 : (k == 1) = false := by rw [beq_eq_false_iff_ne]; omega
    have h2 : (k == 2) = false := by rw [beq_eq_false_iff_ne]; omega
    have h3 : (k == 3) = false := by rw [beq_eq_false_iff_ne]; omega
    have h4 : (k == 4) = false := by rw [beq_eq_false_iff_ne]; omega
    clear h
    go_enter Tryd.func27, Tryd.ntmps27
    go_wp2
    go_ret
    rw [HC.out]
    exact ⟨rfl, Below.refl _ _⟩

set_option maxHeartbeats 1000000 in
theorem spec (k : Int) (w : World) : Calls Tryd.prog 28 #[.int .i64 k] w fun e w' => e = .returned (.string (Cn k)) ∧ Below w.heap.size w w' := by
  by_cases h : k = 0 ∨ k = 1 ∨ k = 2 ∨ k = 3 ∨ k = 4
  · rcases h with rfl | rfl | rfl | rfl | rfl
    all_goals
      go_enter Tryd.func28, Tryd.ntmps28
      go_wp2_with fail
      refine (Label.l1In_any _ _ _ _).mono ?_
      rintro e w' ⟨rfl, rfl⟩
      go_wp2
      go_ret
      exact ⟨rfl, (Below.refl _ _).alloc (Nat.le_refl _) _⟩
  · have HC := Lib.hid (cn_out k (by omega))
    have HD : Hid (decide ((0 : Int) ≤ k ∧ k ≤ 4) = false) := decide_eq_false (by omega)
    clear h
    go_enter Tryd.func28, Tryd.ntmps28
    go_wp2_with fail
    refine (Label.l1In_any _ _ _ _).mono ?_
    rintro e w' ⟨rfl, rfl⟩
    rw [HD.out]
    go_wp2
    go_ret
    rw [HC.out]
    exact ⟨rfl, (Below.refl _ _).alloc (Nat.le_refl _) _⟩
end Go.Proofs.YtpjkfionhjbjiaaDoor.CodeName
