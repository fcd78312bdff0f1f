/- Plain facts on rows of records of one's own. -/
import Derived.Test.YtlakegeabnjegaaGreatDoorAppR
namespace Go.Proofs.YtlakegeabnjegaaGreatDoor.OwnR
open Go.RowKit Go.Proofs.YtlakegeabnjegaaGreatDoor.Mem Go.Proofs.YtlakegeabnjegaaGreatDoor.MemR Go.Proofs.YtlakegeabnjegaaGreatDoor.AppR

section
variable {w w' : World} {base g n cap : Nat} {L : List Rec}
theorem own_below (h : w.ownsRow base 73 6 (.slice (some ⟨g, 0, none⟩) n cap) n (fl L)) (hb : Below w.heap.size w w') : w'.ownsRow base 73 6 (.slice (some ⟨g, 0, none⟩) n cap) n (fl L) :=
  h.kept (row := none) ⟨hb.os, hb.tape, hb.output, hb.size, fun k hk _ => hb.block k hk⟩ (Or.inr (by simp [Value.ownBlock]))
theorem own_len (h : w.ownsRow base 73 6 (.slice (some ⟨g, 0, none⟩) n cap) n (fl L)) : L.length = n := by
  have := h.1
  rw [fl_len] at this
  omega
end
theorem one_sr (w : World) (r : Rec) : Sr (w.alloc (.cells #[.string r.name, .int .i64 r.ty, .int .i64 r.ttl, .int .i64 r.n, .string r.host, .string r.text] 73)) (w.alloc (.cells #[.string r.name, .int .i64 r.ty, .int .i64 r.ttl, .int .i64 r.n, .string r.host, .string r.text] 73)).heap.size (some ⟨w.heap.size, 0, none⟩) 1 [r] := by
  have hb : Bk (w.alloc (.cells #[.string r.name, .int .i64 r.ty, .int .i64 r.ttl, .int .i64 r.n, .string r.host, .string r.text] 73)) w.heap.size 73 (fl [r]) := heap_alloc_new w _
  exact bk_sr0 hb rfl
end Go.Proofs.YtlakegeabnjegaaGreatDoor.OwnR
