/- What SortRecords does in the program: a new slice with the same records in order, which turns nothing that was there. -/
import Derived.Test.YtaahaepgabcebaaDoorSortI
import Derived.Test.YtaahaepgabcebaaDoorCpyR
namespace Go.Proofs.YtaahaepgabcebaaDoor.SortP
open Go.RowKit Go.Proofs.YtaahaepgabcebaaDoor.Mem Go.Proofs.YtaahaepgabcebaaDoor.MemR Go.Proofs.YtaahaepgabcebaaDoor.Labels Go.Proofs.YtaahaepgabcebaaDoor.LessR Go.Proofs.YtaahaepgabcebaaDoor.SrtMath Go.Proofs.YtaahaepgabcebaaDoor.SortI Go.Proofs.YtaahaepgabcebaaDoor.CpyR

/-- The call returned a new slice with the n records of l in order, and turned nothing that was there. -/
def GivesR (w : World) (n : Nat) (l : List Rec) (e : Ending) (w' : World) : Prop :=
  ∃ L g c r, Srt l L ∧ e = .returned (.slice (some ⟨g, 0, none⟩) n c) ∧ n ≤ c ∧ w.heap.size ≤ g ∧ Bk w' g 49 (fl L ++ r) ∧ Below w.heap.size w w'

set_option maxHeartbeats 4000000 in
theorem impl (b off n c : Nat) (l : List Rec) (w : World) (hs : Sr w w.heap.size (some ⟨b, off, none⟩) n l) (he : Env w) (hn : n ≤ 400000000) (hf : ∀ r ∈ l, Fine r) :
    Calls Tryd.prog 17 #[.slice (some ⟨b, off, none⟩) n c] w (GivesR w n l) := by
  have HE := Lib.hid he
  have HF := Lib.hid hf
  have HL := Lib.hid hs.1
  have CP := Lib.hid (copyI b off n c l w hs hn)
  clear he hf hs
  go_enter Tryd.func17, Tryd.ntmps17
  go_wp2_with fail
  refine CP.out.mono ?_
  rintro e w1 ⟨g', cap', r, rfl, hcap, hg, hb, hl⟩
  have L1 := Lib.hid hl
  have B1 := Lib.hid hb
  have G1 := Lib.hid hg
  clear hb hg hl CP
  go_wp2_with fail
  have hgz : g' ≠ 0 := by have := HE.out.lt; have := G1.out; omega
  have hc := stableFunc g' cap' l r w1 B1.out (HE.out.below L1.out) hgz (by rw [HL.out]; exact hn) HF.out
  rw [HL.out] at hc
  refine hc.mono ?_
  clear hc
  rintro e w2 ⟨rfl, L, hS, hb, hg2⟩
  have FI := Lib.hid (show GivesR w n l (.returned (.slice (some ⟨g', 0, none⟩) n cap')) w2 from ⟨L, g', cap', r, hS, rfl, hcap, G1.out, hb, L1.out.grown hg2 L1.out.size (fun k hk => by cases hk; exact G1.out)⟩)
  clear hS hb hg2 hgz
  go_wp2
  go_ret
  exact FI.out
end Go.Proofs.YtaahaepgabcebaaDoor.SortP
