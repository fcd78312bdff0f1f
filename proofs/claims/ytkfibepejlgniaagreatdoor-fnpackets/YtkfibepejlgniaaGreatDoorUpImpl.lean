/- What the program's Up does, by the library's proved contract of strings.Cut: it returns the text behind the first dot of its argument, none where there is no dot. Condition: at most 1048576 bytes; the library's variable internal/bytealg.MaxLen holds an int. -/
import Derived.Test.YtkfibepejlgniaaGreatDoorUp
import Derived.Test.YtkfibepejlgniaaGreatDoorShelf
namespace Go.Proofs.YtkfibepejlgniaaGreatDoor.UpImpl
open Go.RowKit Go.Proofs.YtkfibepejlgniaaGreatDoor.Mem Go.Proofs.YtkfibepejlgniaaGreatDoor.MemS Go.Proofs.YtkfibepejlgniaaGreatDoor.JoinSpec Go.Proofs.YtkfibepejlgniaaGreatDoor.Split Go.Proofs.YtkfibepejlgniaaGreatDoor.JoinLab Go.Proofs.YtkfibepejlgniaaGreatDoor.NameMath Go.Proofs.YtkfibepejlgniaaGreatDoor.Labels Go.Proofs.YtkfibepejlgniaaGreatDoor.Up

theorem index_none : ∀ l : List UInt8, 46 ∉ l → Lib.index l [46] = -1
  | [], _ => rfl
  | c :: l, h => by
    have ih := index_none l (fun e => h (by simp [e]))
    have hc : ¬ (46 : UInt8) = c := fun e => h (by rw [e]; simp)
    have h1 : ([46] : List UInt8).isPrefixOf (c :: l) = false := by
      show ((46 : UInt8) == c && _) = false
      rw [beq_eq_false_iff_ne.2 hc]; rfl
    rw [Lib.index, ih, h1]
    simp
theorem cut_ab (s : ByteArray) : (⟨(Lib.cut s.data.toList [46]).2.1.toArray⟩ : ByteArray) = Ab s := by
  apply text_ext
  rw [Ab, Jo_list]
  show (Lib.cut s.data.toList [46]).2.1 = _
  by_cases h0 : s.size = 0
  · have hz : s.data.toList.length = s.size := by simp
    have e : s.data.toList = [] := List.eq_nil_of_length_eq_zero (by omega)
    rw [Lab, if_pos h0, e]
    rfl
  · rw [jo, List.map_drop, lab_list s h0]
    by_cases hm : 46 ∈ s.data.toList
    · obtain ⟨a, b, e, ha⟩ := parts hm
      rw [e, spa_some a [] b ha, List.drop_succ_cons, List.drop_zero, join_spa, List.nil_append, Lib.cut, index_at a b ha, if_pos (by omega)]
      simp
    · rw [spa_none _ _ hm, Lib.cut, index_none _ hm, if_neg (by decide)]
      rfl

theorem cut (s : ByteArray) (w : World) (he : Env w) (hs : s.size ≤ 1048576) : Calls Tryz.prog 201 #[.string s, .string ⟨#[46]⟩] w fun e w' => ∃ x b n, e = .returned (.tuple #[.string x, .string (Ab s), .bool b]) ∧ w' = w.drewN n := by
  obtain ⟨m, hm⟩ := he
  refine (Go.Proofs.Any.strings_Cut { Tryz.laysM145 with } s ⟨#[46]⟩ m w (by omega) hm).mono fun e w' ⟨hr, n, hw⟩ => ?_
  rw [show (⟨#[46]⟩ : ByteArray).data.toList = [46] from rfl, cut_ab] at hr
  exact ⟨_, _, n, hr, hw⟩

set_option maxHeartbeats 1000000 in
theorem impl (s : ByteArray) (w : World) (he : Env w) (hs : s.size ≤ 1048576) : Calls Tryz.prog 186 #[.string s] w fun e w' => e = .returned (.string (Ab s)) ∧ Below w.heap.size w w' := by
  have HC := Lib.hid (cut s w he hs)
  clear he
  generalize Ab s = U at *
  go_enter Tryz.func186, Tryz.ntmps186
  go_wp2_with fail
  refine HC.out.mono ?_
  rintro e w1 ⟨x, b, n, rfl, rfl⟩
  go_wp2
  go_ret
  exact ⟨rfl, drewN_below _ _ _⟩
end Go.Proofs.YtkfibepejlgniaaGreatDoor.UpImpl
