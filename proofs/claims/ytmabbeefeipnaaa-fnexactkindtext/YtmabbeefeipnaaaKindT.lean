/- What KindText does in the model and in the program: the text of a kind of reply, or the empty text. -/
import Derived.Test.YtmabbeefeipnaaaMem
namespace Go.Proofs.Ytmabbeefeipnaaa.KindT
open Go.RowKit Go.Proofs.Ytmabbeefeipnaaa.Mem

/-- The text of a kind. -/
def kt (n : Int) : ByteArray := if n = 0 then ⟨#[110, 111, 116]⟩ else if n = 1 then ⟨#[100, 111, 119, 110]⟩ else if n = 2 then ⟨#[97, 108, 105, 97, 115]⟩ else if n = 3 then ⟨#[115, 101, 116]⟩ else if n = 4 then ⟨#[110, 111, 100, 97, 116, 97]⟩ else if n = 5 then ⟨#[110, 111, 110, 97, 109, 101]⟩ else ⟨#[]⟩

theorem in6 {n : Int} (h : 0 ≤ n ∧ n ≤ 5) : n = 0 ∨ n = 1 ∨ n = 2 ∨ n = 3 ∨ n = 4 ∨ n = 5 := by omega

theorem kt_out {n : Int} (h : ¬ (0 ≤ n ∧ n ≤ 5)) : kt n = ⟨#[]⟩ := by
  unfold kt
  rw [if_neg (by omega), if_neg (by omega), if_neg (by omega), if_neg (by omega), if_neg (by omega), if_neg (by omega)]

theorem l1In_kt (x a b : Int) (w : World) : Calls Try.prog 56 #[.int .i64 x, .int .i64 a, .int .i64 b] w fun e w' => e = .returned (.bool (decide (a ≤ x ∧ x ≤ b))) ∧ w = w' := by
  by_cases h1 : a ≤ x
  · by_cases h2 : x ≤ b
    · rw [show decide (a ≤ x ∧ x ≤ b) = true from decide_eq_true ⟨h1, h2⟩]
      go_enter Try.func56, Try.ntmps56
      go_wp2
      go_ret
      exact ⟨rfl, rfl⟩
    · rw [show decide (a ≤ x ∧ x ≤ b) = false from decide_eq_false (fun h => h2 h.2)]
      go_enter Try.func56, Try.ntmps56
      go_wp2
      go_ret
      exact ⟨rfl, rfl⟩
  · rw [show decide (a ≤ x ∧ x ≤ b) = false from decide_eq_false (fun h => h1 h.1)]
    go_enter Try.func56, Try.ntmps56
    go_wp2
    go_ret
    exact ⟨rfl, rfl⟩

theorem upTo_kt (x b : Int) (w : World) : Calls Try.prog 57 #[.int .i64 x, .int .i64 b] w fun e w' => e = .returned (.bool (decide (0 ≤ x ∧ x ≤ b))) ∧ w = w' := by
  by_cases h1 : 0 ≤ x
  · by_cases h2 : x ≤ b
    · rw [show decide (0 ≤ x ∧ x ≤ b) = true from decide_eq_true ⟨h1, h2⟩]
      go_enter Try.func57, Try.ntmps57
      go_wp2
      go_ret
      exact ⟨rfl, rfl⟩
    · rw [show decide (0 ≤ x ∧ x ≤ b) = false from decide_eq_false (fun h => h2 h.2)]
      go_enter Try.func57, Try.ntmps57
      go_wp2
      go_ret
      exact ⟨rfl, rfl⟩
  · rw [show decide (0 ≤ x ∧ x ≤ b) = false from decide_eq_false (fun h => h1 h.1)]
    go_enter Try.func57, Try.ntmps57
    go_wp2
    go_ret
    exact ⟨rfl, rfl⟩

set_option maxRecDepth 100000 in
set_option maxHeartbeats 2000000 in
theorem spec (n : Int) (w : World) : Calls Try.prog 33 #[.int .i64 n] w fun e w' => e = .returned (.string (kt n)) ∧ Below w.heap.size w w' := by
  have C := Lib.hid (fun W => l1In_kt n 0 5 W)
  have L0 : Hid (Below w.heap.size w (w.alloc (.cells #[.string ⟨#[110, 111, 116]⟩, .string ⟨#[100, 111, 119, 110]⟩, .string ⟨#[97, 108, 105, 97, 115]⟩, .string ⟨#[115, 101, 116]⟩, .string ⟨#[110, 111, 100, 97, 116, 97]⟩, .string ⟨#[110, 111, 110, 97, 109, 101]⟩] 9))) := (Below.refl _ _).alloc (Nat.le_refl _) _
  by_cases h : 0 ≤ n ∧ n ≤ 5
  · rw [decide_eq_true h] at C
    rcases in6 h with rfl | rfl | rfl | rfl | rfl | rfl
    all_goals
      clear h
      go_enter Try.func33, Try.ntmps33
      go_wp2_with fail
      refine (C.out _).mono ?_
      rintro e w1 ⟨rfl, rfl⟩
      go_wp2
      go_ret
      exact ⟨rfl, L0.out⟩
  · have hk := kt_out h
    rw [decide_eq_false h] at C
    have HK := Lib.hid hk
    clear h hk
    go_enter Try.func33, Try.ntmps33
    go_wp2_with fail
    refine (C.out _).mono ?_
    rintro e w1 ⟨rfl, rfl⟩
    go_wp2
    go_ret
    exact ⟨congrArg (fun b => Ending.returned (Value.string b)) HK.out.symm, L0.out⟩

set_option maxRecDepth 100000 in
set_option maxHeartbeats 2000000 in
theorem impl (n : Int) (w : World) : Calls Try.prog 34 #[.int .i64 n] w fun e w' => e = .returned (.string (kt n)) ∧ Below w.heap.size w w' := by
  have C := Lib.hid (fun W => upTo_kt n 5 W)
  have L0 : Hid (Below w.heap.size w (w.alloc (.cells #[.string ⟨#[110, 111, 116]⟩, .string ⟨#[100, 111, 119, 110]⟩, .string ⟨#[97, 108, 105, 97, 115]⟩, .string ⟨#[115, 101, 116]⟩, .string ⟨#[110, 111, 100, 97, 116, 97]⟩, .string ⟨#[110, 111, 110, 97, 109, 101]⟩] 77))) := (Below.refl _ _).alloc (Nat.le_refl _) _
  by_cases h : 0 ≤ n ∧ n ≤ 5
  · rw [decide_eq_true h] at C
    rcases in6 h with rfl | rfl | rfl | rfl | rfl | rfl
    all_goals
      clear h
      go_enter Try.func34, Try.ntmps34
      go_wp2_with fail
      refine (C.out _).mono ?_
      rintro e w1 ⟨rfl, rfl⟩
      go_wp2
      go_ret
      exact ⟨rfl, L0.out⟩
  · have hk := kt_out h
    rw [decide_eq_false h] at C
    have HK := Lib.hid hk
    clear h hk
    go_enter Try.func34, Try.ntmps34
    go_wp2_with fail
    refine (C.out _).mono ?_
    rintro e w1 ⟨rfl, rfl⟩
    go_wp2
    go_ret
    exact ⟨congrArg (fun b => Ending.returned (Value.string b)) HK.out.symm, L0.out⟩

end Go.Proofs.Ytmabbeefeipnaaa.KindT
