/- Plain facts: the message as bytes. -/
import Derived.Test.YtkfibepejlgniaaGreatDoorOkM
import Derived.Test.YtkfibepejlgniaaGreatDoorFieldMath
import Derived.Test.YtkfibepejlgniaaGreatDoorPutSpec
import Derived.Test.YtkfibepejlgniaaGreatDoorDataS
import Derived.Test.YtkfibepejlgniaaGreatDoorHeadDef
import Derived.Test.YtkfibepejlgniaaGreatDoorSzM
namespace Go.Proofs.YtkfibepejlgniaaGreatDoor.HeadMath
open Go.RowKit Go.Proofs.YtkfibepejlgniaaGreatDoor.Mem Go.Proofs.YtkfibepejlgniaaGreatDoor.MemR Go.Proofs.YtkfibepejlgniaaGreatDoor.MemM Go.Proofs.YtkfibepejlgniaaGreatDoor.App Go.Proofs.YtkfibepejlgniaaGreatDoor.Put Go.Proofs.YtkfibepejlgniaaGreatDoor.PutSpec Go.Proofs.YtkfibepejlgniaaGreatDoor.RecOk Go.Proofs.YtkfibepejlgniaaGreatDoor.FieldMath Go.Proofs.YtkfibepejlgniaaGreatDoor.OkM Go.Proofs.YtkfibepejlgniaaGreatDoor.DataS Go.Proofs.YtkfibepejlgniaaGreatDoor.HeadDef

/-- Records with texts that are not too long. -/
def Meds (l : List Rec) : Prop := ∀ r ∈ l, Med r
theorem Meds.mods {l : List Rec} (h : Meds l) : Mods l := fun r hr => by
  obtain ⟨a, b, c⟩ := h r hr
  exact ⟨by omega, by omega, by omega⟩
/-- The header and the question. -/
def hqs (h : Hd) (a b c : Nat) : List UInt8 := hdl h a b c ++ tailN (hdl h a b c) h.qn ++ tail2 h.qt ++ tail2 1
theorem hqs_len (h : Hd) (a b c : Nat) : (hqs h a b c).length ≤ 96 := by
  unfold hqs
  simp only [List.length_append]
  have := hdl_len h a b c; have := tail2_len h.qt; have := tail2_len 1; have := tailN_len (hdl h a b c) h.qn
  omega
/-- The message as bytes, whatever its size. -/
def pmr (h : Hd) (l1 l2 l3 : List Rec) : List UInt8 := puts (puts (puts (hqs h l1.length l2.length l3.length) l1) l2) l3
/-- What PutMsg answers. -/
def pm (h : Hd) (l1 l2 l3 : List Rec) : List UInt8 := if mok h l1 l2 l3 = true then (if 512 < (pmr h l1 l2 l3).length then [] else pmr h l1 l2 l3) else []
theorem pm_bad {h : Hd} {l1 l2 l3 : List Rec} (e : mok h l1 l2 l3 = false) : pm h l1 l2 l3 = [] := by rw [pm, e]; rfl
theorem pm_long {h : Hd} {l1 l2 l3 : List Rec} (e : mok h l1 l2 l3 = true) (g : 512 < (pmr h l1 l2 l3).length) : pm h l1 l2 l3 = [] := by rw [pm, if_pos e, if_pos g]
theorem pm_good {h : Hd} {l1 l2 l3 : List Rec} (e : mok h l1 l2 l3 = true) (g : ¬ 512 < (pmr h l1 l2 l3).length) : pm h l1 l2 l3 = pmr h l1 l2 l3 := by rw [pm, if_pos e, if_neg g]
theorem pm_len (h : Hd) (l1 l2 l3 : List Rec) : (pm h l1 l2 l3).length ≤ 512 := by
  unfold pm
  split
  · split
    · exact Nat.zero_le _
    · omega
  · exact Nat.zero_le _
theorem mok_parts {h : Hd} {l1 l2 l3 : List Rec} (e : mok h l1 l2 l3 = true) : (0 ≤ h.id ∧ h.id ≤ 65535) ∧ (0 ≤ h.code ∧ h.code ≤ 15) ∧ qok h.qn h.qt = true ∧ rls l1 = true ∧ rls l2 = true ∧ rls l3 = true := by
  unfold mok at e
  simp only [Bool.and_eq_true] at e
  exact ⟨of_decide_eq_true e.1, of_decide_eq_true e.2.1, e.2.2.1, e.2.2.2.1, e.2.2.2.2.1, e.2.2.2.2.2⟩
theorem rls_parts {l : List Rec} (e : rls l = true) : (∀ r ∈ l, rok r = true) ∧ l.length ≤ 8 := by
  unfold rls at e
  simp only [Bool.and_eq_true, List.all_eq_true] at e
  exact ⟨e.1, of_decide_eq_true e.2⟩
theorem meds_of {h : Hd} {l1 l2 l3 : List Rec} (hz : SzM.mz h l1 l2 l3 ≤ 1048576) : Meds l1 ∧ Meds l2 ∧ Meds l3 ∧ h.qn.size ≤ 1048576 := by
  unfold SzM.mz at hz
  have key : ∀ l : List Rec, tot l ≤ 1048576 → Meds l := fun l hl r hr => by
    have := tot_le l r hr
    unfold rz at this
    exact ⟨by omega, by omega, by omega⟩
  exact ⟨key l1 (by omega), key l2 (by omega), key l3 (by omega), by omega⟩
end Go.Proofs.YtkfibepejlgniaaGreatDoor.HeadMath
