/- What the model's Up does: it returns the text behind the first dot of its argument, none where there is no dot. Condition: at most 1048576 bytes. -/
import Derived.Test.YtjgmocmaeadjdaaLabSpec
import Derived.Test.YtjgmocmaeadjdaaNameMath
namespace Go.Proofs.Ytjgmocmaeadjdaa.Up
open Go.RowKit Go.Proofs.Ytjgmocmaeadjdaa.Mem Go.Proofs.Ytjgmocmaeadjdaa.MemS Go.Proofs.Ytjgmocmaeadjdaa.AppS Go.Proofs.Ytjgmocmaeadjdaa.JoinSpec Go.Proofs.Ytjgmocmaeadjdaa.Split Go.Proofs.Ytjgmocmaeadjdaa.JoinLab Go.Proofs.Ytjgmocmaeadjdaa.NameMath

/-- All labels but the first, joined. A def, so that no step of a walk opens it. -/
def Ab (s : ByteArray) : ByteArray := Jo ((Lab s).drop 1)
theorem sum_jo : ∀ L : List ByteArray, (L.map (·.size)).sum ≤ (jo L).length
  | [] => by simp
  | [x] => by
    have hz : x.data.toList.length = x.size := by simp
    simp [jo, Lib.join_one, hz]
  | x :: y :: r => by
    have ih := sum_jo (y :: r)
    have hz : x.data.toList.length = x.size := by simp
    have e : jo (x :: y :: r) = x.data.toList ++ 46 :: jo (y :: r) := by
      rw [jo, List.map_cons, join_more _ _ (by simp)]
      rfl
    rw [e, List.map_cons, List.sum_cons, List.length_append, hz, List.length_cons]
    omega
theorem lab_sum (s : ByteArray) : ((Lab s).map (·.size)).sum ≤ s.size := by
  have h := sum_jo (Lab s)
  have e : (jo (Lab s)).length = s.size := by rw [← Jo_size, jo_lab]
  omega
theorem drop_sum (L : List ByteArray) (k : Nat) : ((L.drop k).map (·.size)).sum ≤ (L.map (·.size)).sum := by
  conv => rhs; rw [← List.take_append_drop k L, List.map_append, List.sum_append]
  omega
/-- A block of texts, read as a slice over what is behind its first. -/
theorem bk_tail {w : World} {g n : Nat} {t : TypeId} {L : List ByteArray} {r : List Value} (h : Bk w g t (L.map tv ++ r)) (hn : L.length = n + 1) : Ss w w.heap.size (some ⟨g, 1, none⟩) n (L.drop 1) := by
  refine Ss.of g 1 rfl (by rw [List.length_drop, hn]; rfl) h.lt fun j hj => ?_
  have hj' : 1 + j < L.length := by rw [List.length_drop] at hj; omega
  rw [h.cell, List.getElem?_append_left (by simpa using hj'), tv_get L (1 + j) hj', List.getElem_drop]

end Go.Proofs.Ytjgmocmaeadjdaa.Up
