/- What copyRecords in the program and l7Copy in the model do: a new slice with the same records. Condition: fewer than 400000001 records. -/
import Derived.Test.YtjgmocmaeadjdaaAppR
namespace Go.Proofs.Ytjgmocmaeadjdaa.CpyR
open Go.RowKit Go.Proofs.Ytjgmocmaeadjdaa.Mem Go.Proofs.Ytjgmocmaeadjdaa.MemR Go.Proofs.Ytjgmocmaeadjdaa.AppR

/-- The call returned a new slice with the n records of l, and turned nothing that was there. -/
def GivesC (w : World) (n : Nat) (l : List Rec) (e : Ending) (w' : World) : Prop :=
  ∃ g c r, e = .returned (.slice (some ⟨g, 0, none⟩) n c) ∧ n ≤ c ∧ w.heap.size ≤ g ∧ Bk w' g 56 (fl l ++ r) ∧ Below w.heap.size w w'

set_option maxHeartbeats 2000000 in
theorem copyI (b off n c : Nat) (l : List Rec) (w : World) (hs : Sr w w.heap.size (some ⟨b, off, none⟩) n l) (hn : n ≤ 400000000) : Calls Try.prog 61 #[.slice (some ⟨b, off, none⟩) n c] w (GivesC w n l) := by
  have L0 := Lib.hid ((Below.refl w.heap.size w).alloc (Nat.le_refl _) (.cells #[] 56))
  have S0 := Lib.hid (hs.on ((Below.refl w.heap.size w).alloc (Nat.le_refl _) (.cells #[] 56)))
  have O0 := Lib.hid (owns_new w)
  clear hs
  go_enter Try.func61, Try.ntmps61
  go_wp2_with (at_builtin; refine append_recs (w := w.alloc (.cells #[] 56)) rfl (.tmp 3) (.tmp 4) rfl w.heap.size w.heap.size 0 0 [] rfl O0.out b off n c _ l rfl S0.out (by omega) (by omega) (by simp) ?_)
  intro g' cap' w1 hown hgrow
  obtain ⟨r, hb, hr, hcap, hg⟩ := bk_of_owns6 hown
  have L1 := Lib.hid (L0.out.grown hgrow L0.out.size (fun k hk => by cases hk; exact Nat.le_refl _))
  have B1 := Lib.hid hb
  have G1 := Lib.hid hg
  clear hown hgrow hb hr hg L0 S0 O0
  go_wp2
  go_ret
  exact ⟨g', cap', r, rfl, hcap, G1.out, B1.out, L1.out⟩

set_option maxHeartbeats 2000000 in
theorem copyS (b off n c : Nat) (l : List Rec) (w : World) (hs : Sr w w.heap.size (some ⟨b, off, none⟩) n l) (hn : n ≤ 400000000) : Calls Try.prog 63 #[.slice (some ⟨b, off, none⟩) n c] w (GivesC w n l) := by
  have L0 := Lib.hid ((Below.refl w.heap.size w).alloc (Nat.le_refl _) (.cells #[] 56))
  have S0 := Lib.hid (hs.on ((Below.refl w.heap.size w).alloc (Nat.le_refl _) (.cells #[] 56)))
  have O0 := Lib.hid (owns_new w)
  clear hs
  go_enter Try.func63, Try.ntmps63
  go_wp2_with (at_builtin; refine append_recs (w := w.alloc (.cells #[] 56)) rfl (.tmp 3) (.tmp 4) rfl w.heap.size w.heap.size 0 0 [] rfl O0.out b off n c _ l rfl S0.out (by omega) (by omega) (by simp) ?_)
  intro g' cap' w1 hown hgrow
  obtain ⟨r, hb, hr, hcap, hg⟩ := bk_of_owns6 hown
  have L1 := Lib.hid (L0.out.grown hgrow L0.out.size (fun k hk => by cases hk; exact Nat.le_refl _))
  have B1 := Lib.hid hb
  have G1 := Lib.hid hg
  clear hown hgrow hb hr hg L0 S0 O0
  go_wp2
  go_ret
  exact ⟨g', cap', r, rfl, hcap, G1.out, B1.out, L1.out⟩

end Go.Proofs.Ytjgmocmaeadjdaa.CpyR
