/- What the program's JoinLabels does, by the library's proved contract of strings.Join: it returns the texts with a dot between them. Condition: at most 4000000 texts and bytes together. -/
import Derived.Test.YtkfibepejlgniaaGreatDoorJoinSpec
import Derived.Test.YtkfibepejlgniaaGreatDoorShelf
namespace Go.Proofs.YtkfibepejlgniaaGreatDoor.Join
open Go.RowKit Go.Proofs.YtkfibepejlgniaaGreatDoor.Mem Go.Proofs.YtkfibepejlgniaaGreatDoor.MemS Go.Proofs.YtkfibepejlgniaaGreatDoor.JoinSpec

theorem join (A : Option Addr) (n c : Nat) (l : List ByteArray) (w : World) (hs : Ss w w.heap.size A n l) (hnc : n ≤ c) (hn : l.length + (l.map (·.size)).sum ≤ 800000000) :
    Calls Tryz.prog 75 #[.slice A n c, .string ⟨#[46]⟩] w fun e w' => e = .returned (.string (Jo l)) ∧ Below w.heap.size w w' := by
  have hl := hs.1
  by_cases h0 : 0 < n
  · obtain ⟨b, off, rfl, hb, hcs⟩ := hs.2 h0
    subst hl
    have hz := jo_size l l.length (Nat.le_refl _)
    rw [List.take_length] at hz
    exact Go.Proofs.Any.strings_Join Tryz.lays156 Tryz.Builder_Extra_156 b off c l ⟨#[46]⟩ w (fun j x hx => by
      obtain ⟨hj, rfl⟩ := List.getElem?_eq_some_iff.1 hx
      exact hcs j hj) hb (by omega) hnc (by show (jo l).length ≤ _; omega)
  · obtain rfl : n = 0 := by omega
    obtain rfl : l = [] := List.eq_nil_of_length_eq_zero hl
    exact (Go.Proofs.Any.strings_Join_none Tryz.lays156 Tryz.Builder_Extra_156 A c ⟨#[46]⟩ w).mono fun e w' ⟨he, hw⟩ => ⟨he, hw ▸ Below.refl _ _⟩

set_option maxHeartbeats 400000 in
theorem impl (A : Option Addr) (n c : Nat) (l : List ByteArray) (w : World) (hs : Ss w w.heap.size A n l) (hnc : n ≤ c) (hn : l.length + (l.map (·.size)).sum ≤ 800000000) :
    Calls Tryz.prog 147 #[.slice A n c] w fun e w' => e = .returned (.string (Jo l)) ∧ Below w.heap.size w w' := by
  have HS := Lib.hid hs
  have HN := Lib.hid hn
  clear hs hn
  go_enter Tryz.func147, Tryz.ntmps147
  go_wp2_with fail
  refine (join A n c l w HS.out hnc HN.out).mono ?_
  rintro e w1 ⟨rfl, hl⟩
  have HL := Lib.hid hl
  clear hl
  go_wp2
  go_ret
  exact ⟨rfl, HL.out⟩
end Go.Proofs.YtkfibepejlgniaaGreatDoor.Join
