/- Plain mathematics: runs of equal length, taken two at a time. -/
import Derived.Test.YtaahaepgabcebaaDoorMerge
namespace Go.Proofs.YtaahaepgabcebaaDoor.Merge
open Go.Sort
section
variable {α : Type} [Inhabited α] {lt : α → α → Bool}
theorem runs_one {k n : Nat} {d : Array α} {q a : Nat} (h : Runs lt k n d q a) (hn : n ≤ a + k) : SortedIn lt a n d := by
  cases q with
  | zero => exact h.1
  | succ q =>
    have e : n = a + k := by have := h.1; omega
    rw [e]; exact h.2.1
theorem runs_tail {k n : Nat} {d : Array α} {q a : Nat} (h : Runs lt k n d q a) (h1 : a + k < n) (h2 : n ≤ a + 2 * k) : SortedIn lt a (a + k) d ∧ SortedIn lt (a + k) n d := by
  cases q with
  | zero => have := h.2; omega
  | succ q => exact ⟨h.2.1, runs_one h.2.2 (by omega)⟩
theorem runs_two {k n : Nat} {d : Array α} {q a : Nat} (h : Runs lt k n d q a) (h1 : a + 2 * k ≤ n) (hk : 0 < k) : SortedIn lt a (a + k) d ∧ SortedIn lt (a + k) (a + 2 * k) d ∧ ∃ q', Runs lt k n d q' (a + 2 * k) := by
  cases q with
  | zero => have := h.2; omega
  | succ q =>
    refine ⟨h.2.1, ?_⟩
    have h3 := h.2.2
    cases q with
    | zero =>
      have e : n = a + 2 * k := by have := h3.2; omega
      refine ⟨by rw [← e]; exact h3.1, 0, fun i j i1 ij j1 => by omega, by omega⟩
    | succ q =>
      have e : a + k + k = a + 2 * k := by omega
      have h4 := h3.2.1
      have h5 := h3.2.2
      rw [e] at h4 h5
      exact ⟨h4, q, h5⟩
end
end Go.Proofs.YtaahaepgabcebaaDoor.Merge
