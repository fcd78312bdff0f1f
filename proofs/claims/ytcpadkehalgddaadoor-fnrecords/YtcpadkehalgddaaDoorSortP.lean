/- What SortRecords does in the program: a new slice with the same records in order, which turns nothing that was there. -/
import Derived.Test.YtcpadkehalgddaaDoorSortI
import Derived.Test.YtcpadkehalgddaaDoorAppR
namespace Go.Proofs.YtcpadkehalgddaaDoor.SortP
open Go.RowKit Go.Proofs.YtcpadkehalgddaaDoor.Mem Go.Proofs.YtcpadkehalgddaaDoor.MemR Go.Proofs.YtcpadkehalgddaaDoor.Labels Go.Proofs.YtcpadkehalgddaaDoor.LessR Go.Proofs.YtcpadkehalgddaaDoor.SrtMath Go.Proofs.YtcpadkehalgddaaDoor.SortI Go.Proofs.YtcpadkehalgddaaDoor.AppR

/-- The call returned a new slice with the n records of l in order, and turned nothing that was there. -/
def GivesR (w : World) (n : Nat) (l : List Rec) (e : Ending) (w' : World) : Prop :=
  ∃ L g c r, Srt l L ∧ e = .returned (.slice (some ⟨g, 0, none⟩) n c) ∧ n ≤ c ∧ w.heap.size ≤ g ∧ Bk w' g 25 (fl L ++ r) ∧ Below w.heap.size w w'

set_option maxHeartbeats 4000000 in
theorem impl (b off n c : Nat) (l : List Rec) (w : World) (hs : Sr w w.heap.size (some ⟨b, off, none⟩) n l) (he : Env w) (hn : n ≤ 400000000) (hf : ∀ r ∈ l, Fine r) :
    Calls Tryd.prog 14 #[.slice (some ⟨b, off, none⟩) n c] w (GivesR w n l) := by
  have HE := Lib.hid he
  have HF := Lib.hid hf
  have HL := Lib.hid hs.1
  have L0 := Lib.hid ((Below.refl w.heap.size w).alloc (Nat.le_refl _) (.cells #[] 25))
  have S0 := Lib.hid (hs.on ((Below.refl w.heap.size w).alloc (Nat.le_refl _) (.cells #[] 25)))
  have O0 := Lib.hid (owns_new w)
  clear he hf hs
  go_enter Tryd.func14, Tryd.ntmps14
  go_wp2_with (at_builtin; refine append_recs (w := w.alloc (.cells #[] 25)) rfl (.tmp 4) (.tmp 5) rfl w.heap.size w.heap.size 0 0 [] rfl O0.out b off n c _ l rfl S0.out (by omega) (by omega) (by simp) ?_)
  intro g' cap' w1 hown hgrow
  obtain ⟨r, hb, hr, hcap, hg⟩ := bk_of_owns6 hown
  have L1 := Lib.hid (L0.out.grown hgrow L0.out.size (fun k hk => by cases hk; exact Nat.le_refl _))
  have B1 := Lib.hid hb
  have G1 := Lib.hid hg
  clear hown hgrow hb hr hg L0 S0 O0
  go_wp2_with fail
  have hgz : g' ≠ 0 := by have := HE.out.lt; have := G1.out; omega
  have hc := stableFunc g' cap' l r w1 B1.out (HE.out.below L1.out) hgz (by rw [HL.out]; exact hn) HF.out
  rw [HL.out] at hc
  refine hc.mono ?_
  clear hc
  rintro e w2 ⟨rfl, L, hS, hb, hg2⟩
  have FI := Lib.hid (show GivesR w n l (.returned (.slice (some ⟨g', 0, none⟩) n cap')) w2 from ⟨L, g', cap', r, hS, rfl, hcap, G1.out, hb, L1.out.grown hg2 L1.out.size (fun k hk => by cases hk; exact G1.out)⟩)
  clear hS hb hg2 hgz
  go_wp2
  go_ret
  exact FI.out
end Go.Proofs.YtcpadkehalgddaaDoor.SortP
