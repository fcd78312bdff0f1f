/- What the model's draws for the laws on records do: records of short texts, rows of them; nothing that was there is turned. -/
import Derived.Test.YtlakegeabnjegaaGreatDoorDrawA
import Derived.Test.YtlakegeabnjegaaGreatDoorApp
namespace Go.Proofs.YtlakegeabnjegaaGreatDoor.DrawK
open Go.RowKit Go.Proofs.YtlakegeabnjegaaGreatDoor.Mem Go.Proofs.YtlakegeabnjegaaGreatDoor.MemR Go.Proofs.YtlakegeabnjegaaGreatDoor.BoxR Go.Proofs.YtlakegeabnjegaaGreatDoor.App Go.Proofs.YtlakegeabnjegaaGreatDoor.Draw Go.Proofs.YtlakegeabnjegaaGreatDoor.DrawS Go.Proofs.YtlakegeabnjegaaGreatDoor.DrawL Go.Proofs.YtlakegeabnjegaaGreatDoor.DrawN Go.Proofs.YtlakegeabnjegaaGreatDoor.AppR Go.Proofs.YtlakegeabnjegaaGreatDoor.ResR Go.Proofs.YtlakegeabnjegaaGreatDoor.DrawR Go.Proofs.YtlakegeabnjegaaGreatDoor.DrawA Go.Proofs.YtlakegeabnjegaaGreatDoor.OwnR

/-- A record of short texts; nothing that was there is turned. -/
def Rct (w : World) (e : Ending) (w' : World) : Prop := ∃ r : Rec, e = .returned (.agg #[.string r.name, .int .i64 r.ty, .int .i64 r.ttl, .int .i64 r.n, .string r.host, .string r.text]) ∧ Sml r ∧ Below w.heap.size w w'

/-- A row of records of short texts; nothing that was there is turned. -/
def Rws (w : World) (most : Nat) (e : Ending) (w' : World) : Prop :=
  ∃ (gl cap : Nat) (L : List Rec), e = .returned (.slice (some ⟨gl, 0, none⟩) L.length cap) ∧ L.length ≤ most ∧ (∀ r ∈ L, Sml r) ∧ Sr w' w'.heap.size (some ⟨gl, 0, none⟩) L.length L ∧ Below w.heap.size w w'
theorem own_srk {w : World} {base gl n cap : Nat} {L : List Rec} (h : w.ownsRow base 73 6 (.slice (some ⟨gl, 0, none⟩) n cap) n (fl L)) : Sr w w.heap.size (some ⟨gl, 0, none⟩) L.length L := by
  obtain ⟨r, hb, _, _, _⟩ := bk_of_owns6 h
  exact bk_sr hb rfl

end Go.Proofs.YtlakegeabnjegaaGreatDoor.DrawK
