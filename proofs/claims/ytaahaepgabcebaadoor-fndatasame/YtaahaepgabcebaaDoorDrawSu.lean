/- What the model's draws for the laws on record sets do: rows of records of short texts, a name and a type, a time to live; nothing that was there is turned. -/
import Derived.Test.YtaahaepgabcebaaDoorDrawSt
namespace Go.Proofs.YtaahaepgabcebaaDoor.DrawSu
open Go.RowKit Go.Proofs.YtaahaepgabcebaaDoor.Mem Go.Proofs.YtaahaepgabcebaaDoor.MemR Go.Proofs.YtaahaepgabcebaaDoor.Draw Go.Proofs.YtaahaepgabcebaaDoor.DrawS Go.Proofs.YtaahaepgabcebaaDoor.DrawR Go.Proofs.YtaahaepgabcebaaDoor.DrawSt

theorem below_of_grown {w w' : World} (h : w.grownBy w' none) : Below w.heap.size w w' := ⟨h.os, h.tape, h.output, h.size, fun k hk => h.block k hk (by simp)⟩

theorem below_more {w v v' : World} {g : Nat} (h : Below w.heap.size w v) (hg : v.grownBy v' (some g)) (hr : w.heap.size ≤ g) : Below w.heap.size w v' := h.grown hg h.size (fun j hj => by cases hj; exact hr)

theorem own_sr {w : World} {base gl n cap : Nat} {L : List Rec} (h : w.ownsRow base 49 6 (.slice (some ⟨gl, 0, none⟩) n cap) n (fl L)) (hn : L.length = n) : Sr w w.heap.size (some ⟨gl, 0, none⟩) n L := by
  obtain ⟨r, hb, _⟩ := bk_of_owns6 h
  exact bk_sr hb hn

/-- A row of at most 6 records of short texts. -/
def Rw (w : World) (e : Ending) (w' : World) : Prop := ∃ (gl m cap : Nat) (L : List Rec), e = .returned (.slice (some ⟨gl, 0, none⟩) m cap) ∧ m ≤ 6 ∧ (∀ r ∈ L, Sml r) ∧ Sr w' w'.heap.size (some ⟨gl, 0, none⟩) m L ∧ Below w.heap.size w w'

/-- ... and a name and a type. -/
def Rwn (w : World) (e : Ending) (w' : World) : Prop := ∃ (gl m cap : Nat) (L : List Rec) (s : ByteArray) (t : Int), e = .returned (.tuple #[.slice (some ⟨gl, 0, none⟩) m cap, .string s, .int .i64 t]) ∧ m ≤ 6 ∧ (∀ r ∈ L, Sml r) ∧ Sr w' w'.heap.size (some ⟨gl, 0, none⟩) m L ∧ Below w.heap.size w w'

/-- ... and a time to live. -/
def Rwt (w : World) (e : Ending) (w' : World) : Prop := ∃ (gl m cap : Nat) (L : List Rec) (t : Int), e = .returned (.tuple #[.slice (some ⟨gl, 0, none⟩) m cap, .int .i64 t]) ∧ m ≤ 6 ∧ (∀ r ∈ L, Sml r) ∧ Sr w' w'.heap.size (some ⟨gl, 0, none⟩) m L ∧ Below w.heap.size w w'

end Go.Proofs.YtaahaepgabcebaaDoor.DrawSu
