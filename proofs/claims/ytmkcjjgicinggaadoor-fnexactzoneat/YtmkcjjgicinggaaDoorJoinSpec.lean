/- What the model's JoinLabels does: it returns the texts with a dot between them. Condition: at most 4000000 texts and bytes together. -/
import Derived.Test.YtmkcjjgicinggaaDoorMemS
import Derived.Lib.Join
namespace Go.Proofs.YtmkcjjgicinggaaDoor.JoinSpec
open Go.RowKit Go.Proofs.YtmkcjjgicinggaaDoor.Mem Go.Proofs.YtmkcjjgicinggaaDoor.MemS

/-- The bytes of the joined text. -/
def jo (l : List ByteArray) : List UInt8 := Lib.join (l.map (·.data.toList)) [46]
/-- The joined text. A def, so that no step of a walk opens it. -/
def Jo (l : List ByteArray) : ByteArray := ⟨(jo l).toArray⟩
theorem Jo_list (l : List ByteArray) : (Jo l).data.toList = jo l := by simp [Jo]
theorem Jo_size (l : List ByteArray) : (Jo l).size = (jo l).length := by
  show (jo l).toArray.size = _
  simp
theorem jo_first (l : List ByteArray) (h : 0 < l.length) : jo (l.take 1) = l[0].data.toList := by
  rw [List.take_succ_eq_append_getElem h]
  simp [jo, Lib.join_one]
theorem jo_step (l : List ByteArray) (k : Nat) (h0 : 0 < k) (h : k < l.length) : jo (l.take (k + 1)) = jo (l.take k) ++ [46] ++ l[k].data.toList := by
  cases l with
  | nil => simp at h
  | cons x r =>
    obtain ⟨k, rfl⟩ : ∃ j, k = j + 1 := ⟨k - 1, by omega⟩
    have hk : k < r.length := by simpa using h
    have e := Lib.joinTail_take_succ [46] (r.map (·.data.toList)) k r[k].data.toList (by simp [hk])
    simp only [jo, List.take_succ_cons, List.map_cons, Lib.join_cons, List.map_take, List.getElem_cons_succ]
    rw [e]
    simp [List.append_assoc]
theorem jo_size_step (l : List ByteArray) (k : Nat) (h : k < l.length) : (jo (l.take (k + 1))).length ≤ (jo (l.take k)).length + 1 + l[k].size := by
  have hz : l[k].data.toList.length = l[k].size := by simp
  by_cases h0 : 0 < k
  · rw [jo_step l k h0 h, List.length_append, List.length_append, hz]; simp
  · obtain rfl : k = 0 := by omega
    rw [jo_first l h, hz]; omega
theorem jo_size (l : List ByteArray) : ∀ k, k ≤ l.length → (jo (l.take k)).length ≤ k + ((l.take k).map (·.size)).sum := by
  intro k
  induction k with
  | zero => intro _; simp [jo, Lib.join_nil]
  | succ k ih =>
    intro h
    have h1 := ih (by omega)
    have h2 := jo_size_step l k (by omega)
    rw [List.take_succ_eq_append_getElem (show k < l.length by omega), List.map_append, List.sum_append]
    rw [List.take_succ_eq_append_getElem (show k < l.length by omega)] at h2
    simp at h1 h2 ⊢
    omega
theorem sum_take (l : List ByteArray) (k : Nat) : ((l.take k).map (·.size)).sum ≤ (l.map (·.size)).sum := by
  conv => rhs; rw [← List.take_append_drop k l, List.map_append, List.sum_append]
  omega

end Go.Proofs.YtmkcjjgicinggaaDoor.JoinSpec
