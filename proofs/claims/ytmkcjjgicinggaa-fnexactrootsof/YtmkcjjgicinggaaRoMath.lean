/- Plain mathematics of a name space: the root's addresses. -/
import Derived.Test.YtmkcjjgicinggaaMemF
import Derived.Test.YtmkcjjgicinggaaSetMath
namespace Go.Proofs.Ytmkcjjgicinggaa.RoMath
open Go.RowKit Go.Proofs.Ytmkcjjgicinggaa.MemR Go.Proofs.Ytmkcjjgicinggaa.MemF Go.Proofs.Ytmkcjjgicinggaa.SetMath

/-- The addresses of the root, as the posts stand. -/
def ro (ps : List Pst) : List Int := (ps.filter (fun p => p.apex.data.toList == [])).map (·.addr)

theorem ro_take (ps : List Pst) (k : Nat) (h : k < ps.length) : ro (ps.take (k + 1)) = ro (ps.take k) ++ (if (ps[k].apex.data.toList == []) = true then [ps[k].addr] else []) := by
  unfold ro
  rw [filter_take _ _ _ h, List.map_append]
  split <;> rfl

theorem ro_len (ps : List Pst) : (ro ps).length ≤ ps.length := by rw [ro, List.length_map]; exact List.length_filter_le _ _

theorem ro_len_take (ps : List Pst) (k : Nat) : (ro (ps.take k)).length ≤ k := Nat.le_trans (ro_len _) (by simp; omega)
end Go.Proofs.Ytmkcjjgicinggaa.RoMath
