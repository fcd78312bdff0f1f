/- What copyRecords in the program and l7Copy in the model do: a new slice with the same records. Condition: fewer than 400000001 records. -/
import Derived.Test.YtkpcanigdppegaaAppR
namespace Go.Proofs.Ytkpcanigdppegaa.CpyR
open Go.RowKit Go.Proofs.Ytkpcanigdppegaa.Mem Go.Proofs.Ytkpcanigdppegaa.MemR Go.Proofs.Ytkpcanigdppegaa.AppR

/-- The call returned a new slice with the n records of l, and turned nothing that was there. -/
def GivesC (w : World) (n : Nat) (l : List Rec) (e : Ending) (w' : World) : Prop :=
  ∃ g c r, e = .returned (.slice (some ⟨g, 0, none⟩) n c) ∧ n ≤ c ∧ w.heap.size ≤ g ∧ Bk w' g 36 (fl l ++ r) ∧ Below w.heap.size w w'

end Go.Proofs.Ytkpcanigdppegaa.CpyR
