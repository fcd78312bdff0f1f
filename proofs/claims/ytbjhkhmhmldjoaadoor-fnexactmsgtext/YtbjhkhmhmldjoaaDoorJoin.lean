/- What the program's JoinLabels does, by the library's proved contract of strings.Join: it returns the texts with a dot between them. Condition: at most 4000000 texts and bytes together. -/
import Derived.Test.YtbjhkhmhmldjoaaDoorJoinSpec
import Derived.Test.YtbjhkhmhmldjoaaDoorShelf
namespace Go.Proofs.YtbjhkhmhmldjoaaDoor.Join
open Go.RowKit Go.Proofs.YtbjhkhmhmldjoaaDoor.Mem Go.Proofs.YtbjhkhmhmldjoaaDoor.MemS Go.Proofs.YtbjhkhmhmldjoaaDoor.JoinSpec

theorem join (A : Option Addr) (n c : Nat) (l : List ByteArray) (w : World) (hs : Ss w w.heap.size A n l) (hnc : n ≤ c) (hn : l.length + (l.map (·.size)).sum ≤ 800000000) :
    Calls Tryd.prog 53 #[.slice A n c, .string ⟨#[46]⟩] w fun e w' => e = .returned (.string (Jo l)) ∧ Below w.heap.size w w' := by
  have hl := hs.1
  by_cases h0 : 0 < n
  · obtain ⟨b, off, rfl, hb, hcs⟩ := hs.2 h0
    subst hl
    have hz := jo_size l l.length (Nat.le_refl _)
    rw [List.take_length] at hz
    exact Go.Proofs.Any.strings_Join Tryd.lays156 Tryd.Builder_Extra_156 b off c l ⟨#[46]⟩ w (fun j x hx => by
      obtain ⟨hj, rfl⟩ := List.getElem?_eq_some_iff.1 hx
      exact hcs j hj) hb (by omega) hnc (by show (jo l).length ≤ _; omega)
  · obtain rfl : n = 0 := by omega
    obtain rfl : l = [] := List.eq_nil_of_length_eq_zero hl
    exact (Go.Proofs.Any.strings_Join_none Tryd.lays156 Tryd.Builder_Extra_156 A c ⟨#[46]⟩ w).mono fun e w' ⟨he, hw⟩ => ⟨he, hw ▸ Below.refl _ _⟩

end Go.Proofs.YtbjhkhmhmldjoaaDoor.Join
