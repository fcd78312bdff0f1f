/- Plain facts for GetRecords: what it answers (grA), and what it hands back: a new row of records of its own. -/
import Derived.Test.YtcpadkehalgddaaGreatDoorFieldMath
import Derived.Test.YtcpadkehalgddaaGreatDoorAppR
import Derived.Test.YtcpadkehalgddaaGreatDoorApp
namespace Go.Proofs.YtcpadkehalgddaaGreatDoor.GetsM
open Go.RowKit Go.Proofs.YtcpadkehalgddaaGreatDoor.Mem Go.Proofs.YtcpadkehalgddaaGreatDoor.MemR Go.Proofs.YtcpadkehalgddaaGreatDoor.App Go.Proofs.YtcpadkehalgddaaGreatDoor.AppR Go.Proofs.YtcpadkehalgddaaGreatDoor.FieldMath

/-- What GetRecords answers. A def, so that no step of a walk opens it. -/
def grA (l : List UInt8) (k m : Int) : Nat × Int × List Rec := if 0 ≤ m ∧ m ≤ 8 then grs l m.toNat k [] else (2, 0, [])
/-- The call returned a row of records of its own, an offset and a code, and turned nothing that was there. -/
def Grs (w : World) (X : Nat × Int × List Rec) (e : Ending) (w' : World) : Prop :=
  ∃ g cap, e = .returned (.tuple #[.slice (some ⟨g, 0, none⟩) X.2.2.length cap, .int .i64 X.2.1, .int .i64 (X.1 : Int)]) ∧ w'.ownsRow w.heap.size 25 6 (.slice (some ⟨g, 0, none⟩) X.2.2.length cap) X.2.2.length (fl X.2.2) ∧ Below w.heap.size w w'
section
variable {w w' : World} {base g n cap : Nat} {L : List Rec}
theorem own_below (h : w.ownsRow base 25 6 (.slice (some ⟨g, 0, none⟩) n cap) n (fl L)) (hb : Below w.heap.size w w') : w'.ownsRow base 25 6 (.slice (some ⟨g, 0, none⟩) n cap) n (fl L) :=
  h.kept (row := none) ⟨hb.os, hb.tape, hb.output, hb.size, fun k hk _ => hb.block k hk⟩ (Or.inr (by simp [Value.ownBlock]))
theorem own_len (h : w.ownsRow base 25 6 (.slice (some ⟨g, 0, none⟩) n cap) n (fl L)) : L.length = n := by
  have := h.1
  rw [fl_len] at this
  omega
theorem grs_of (h : w'.ownsRow w.heap.size 25 6 (.slice (some ⟨g, 0, none⟩) n cap) n (fl L)) (hb : Below w.heap.size w w') (x : Int) (c : Nat) : Grs w (c, x, L) (.returned (.tuple #[.slice (some ⟨g, 0, none⟩) n cap, .int .i64 x, .int .i64 (c : Int)])) w' := by
  have hl := own_len h
  subst hl
  exact ⟨g, cap, rfl, h, hb⟩
theorem grs_nil {w1 : World} (hb : Below w.heap.size w w1) (x : Int) (c : Nat) : Grs w (c, x, []) (.returned (.tuple #[.slice (some ⟨w1.heap.size, 0, none⟩) 0 0, .int .i64 x, .int .i64 (c : Int)])) (w1.alloc (.cells #[] 25)) :=
  grs_of (L := []) (owns_base (AppR.owns_new w1) hb.size) (hb.alloc hb.size _) x c
theorem grs_nil2 {w1 : World} (hb : Below w.heap.size w w1) (x : Int) (c : Nat) (hg : w1.heap.size = g) : Grs w (c, x, []) (.returned (.tuple #[.slice (some ⟨g, 0, none⟩) 0 0, .int .i64 x, .int .i64 (c : Int)])) (w1.alloc (.cells #[] 25)) := by
  subst hg
  exact grs_nil hb x c
end
theorem one_sr (w : World) (r : Rec) : Sr (w.alloc (.cells #[.string r.name, .int .i64 r.ty, .int .i64 r.ttl, .int .i64 r.n, .string r.host, .string r.text] 25)) (w.alloc (.cells #[.string r.name, .int .i64 r.ty, .int .i64 r.ttl, .int .i64 r.n, .string r.host, .string r.text] 25)).heap.size (some ⟨w.heap.size, 0, none⟩) 1 [r] := by
  have hb : Bk (w.alloc (.cells #[.string r.name, .int .i64 r.ty, .int .i64 r.ttl, .int .i64 r.n, .string r.host, .string r.text] 25)) w.heap.size 25 (fl [r]) := heap_alloc_new w _
  exact bk_sr0 hb rfl
theorem grs_step (l : List UInt8) (n : Nat) (k : Int) (L : List Rec) : grs l (n + 1) k L = if (gr l k).1 ≠ 0 then ((gr l k).1, 0, []) else grs l n (gr l k).2.1 (L ++ [(gr l k).2.2]) := rfl
theorem grs_len (l : List UInt8) : ∀ (n : Nat) (k : Int) (L : List Rec), (grs l n k L).2.2.length ≤ L.length + n
  | 0, k, L => by simp [grs]
  | n + 1, k, L => by
    rw [grs_step]
    split
    · simp
    · have := grs_len l n (gr l k).2.1 (L ++ [(gr l k).2.2])
      rw [List.length_append] at this
      simp at this
      omega
theorem grA_len (l : List UInt8) (k m : Int) : (grA l k m).2.2.length ≤ 8 := by
  unfold grA
  split
  · have := grs_len l m.toNat k []
    simp at this
    omega
  · simp
theorem Grs.bk {w w' : World} {X : Nat × Int × List Rec} {e : Ending} (h : Grs w X e w') : ∃ g cap r, e = .returned (.tuple #[.slice (some ⟨g, 0, none⟩) X.2.2.length cap, .int .i64 X.2.1, .int .i64 (X.1 : Int)]) ∧ Bk w' g 25 (fl X.2.2 ++ r) ∧ w.heap.size ≤ g ∧ Below w.heap.size w w' := by
  obtain ⟨g, cap, he, ho, hb⟩ := h
  obtain ⟨r, h1, _, _, h4⟩ := bk_of_owns6 ho
  exact ⟨g, cap, r, he, h1, h4, hb⟩
end Go.Proofs.YtcpadkehalgddaaGreatDoor.GetsM
