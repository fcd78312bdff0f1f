/- What the laws' own comparison of two slices of bytes does. Condition: fewer than 2000001 bytes. -/
import Derived.Test.YtebodggjcndbeaaDoorEq
namespace Go.Proofs.YtebodggjcndbeaaDoor.Same
open Go.RowKit Go.Proofs.YtebodggjcndbeaaDoor.Mem Go.Proofs.YtebodggjcndbeaaDoor.Eq

theorem big_no (A : Option Addr) (n c : Nat) (w : World) (h : n ≤ 1048576) : Calls Tryd.prog 7 #[.slice A n c] w fun e w' => e = .returned (.bool false) ∧ w = w' := by
  have hd : decide ((1048576 : Int) < (n : Int)) = false := by simp; omega
  go_enter Tryd.func7, Tryd.ntmps7
  go_wp2
  go_ret
  exact ⟨rfl, rfl⟩
theorem big_yes (A : Option Addr) (n c : Nat) (w : World) (h : ¬ n ≤ 1048576) : Calls Tryd.prog 7 #[.slice A n c] w fun e w' => e = .returned (.bool true) ∧ w = w' := by
  have hd : decide ((1048576 : Int) < (n : Int)) = true := by simp; omega
  go_enter Tryd.func7, Tryd.ntmps7
  go_wp2
  go_ret
  exact ⟨rfl, rfl⟩
end Go.Proofs.YtebodggjcndbeaaDoor.Same
