/- Plain mathematics: valid names: at most 50 bytes and at most 6 labels, all of them valid. -/
import Derived.Test.YtjgmocmaeadjdaaLabel
import Derived.Test.YtjgmocmaeadjdaaUp
namespace Go.Proofs.Ytjgmocmaeadjdaa.NameOk
open Go.RowKit Go.Proofs.Ytjgmocmaeadjdaa.Mem Go.Proofs.Ytjgmocmaeadjdaa.MemS Go.Proofs.Ytjgmocmaeadjdaa.AppS Go.Proofs.Ytjgmocmaeadjdaa.Split Go.Proofs.Ytjgmocmaeadjdaa.Labels Go.Proofs.Ytjgmocmaeadjdaa.Label

/-- Valid labels. -/
def okL (L : List ByteArray) : Bool := L.all fun x => lok x.data.toList
/-- A valid name. A def, so that no step of a walk opens it. -/
def Nm (s : ByteArray) : Bool := okL (Lab s) && decide (s.size ≤ 50) && decide ((Lab s).length ≤ 6)
theorem ok_step {L : List ByteArray} {k : Nat} (h : k < L.length) (hk : okL (L.take k) = true) (hx : lok L[k].data.toList = true) : okL (L.take (k + 1)) = true := by
  rw [List.take_succ_eq_append_getElem h, okL, List.all_append, Bool.and_eq_true]
  exact ⟨hk, by simp [hx]⟩
theorem ok_bad {L : List ByteArray} {k : Nat} (h : k < L.length) (hx : lok L[k].data.toList = false) : okL L = false := by
  rw [okL, List.all_eq_false]
  exact ⟨L[k], List.getElem_mem h, by simp [hx]⟩
/-- A label of a text is no longer than the text. -/
theorem lab_short (s : ByteArray) (k : Nat) (h : k < (Lab s).length) : (Lab s)[k].size ≤ s.size := by
  have h1 : ((Lab s)[k]).size ≤ ((Lab s).map (·.size)).sum := le_sum _ _ (List.mem_map.2 ⟨_, List.getElem_mem h, rfl⟩)
  have h2 := Up.lab_sum s
  omega
end Go.Proofs.Ytjgmocmaeadjdaa.NameOk
