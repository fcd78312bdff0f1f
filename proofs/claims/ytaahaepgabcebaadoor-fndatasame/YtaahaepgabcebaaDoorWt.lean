/- What WithTtl does in the program and in the model: a new slice with the same records, their times to live all replaced. Condition: fewer than 400000001 records. -/
import Derived.Test.YtaahaepgabcebaaDoorSetMath
import Derived.Test.YtaahaepgabcebaaDoorCpyR
namespace Go.Proofs.YtaahaepgabcebaaDoor.Wt
open Go.RowKit Go.Proofs.YtaahaepgabcebaaDoor.Mem Go.Proofs.YtaahaepgabcebaaDoor.MemR Go.Proofs.YtaahaepgabcebaaDoor.SetMath Go.Proofs.YtaahaepgabcebaaDoor.CpyR

/-- The call returned a new slice that reads as the records l (room behind it let in), and turned nothing that was there. -/
def GivesL (w : World) (l : List Rec) (e : Ending) (w' : World) : Prop :=
  ∃ g m c r, e = .returned (.slice (some ⟨g, 0, none⟩) m c) ∧ l.length = m ∧ m ≤ c ∧ w.heap.size ≤ g ∧ Bk w' g 49 (fl l ++ r) ∧ Below w.heap.size w w'

theorem put_ttl (t : Int) (l : List Rec) (v : List Value) (k : Nat) (h : k < l.length) : (fl ((l.take k).map (wr t) ++ l.drop k) ++ v).set (k * 6 + 2) (.int .i64 t) = fl ((l.take (k + 1)).map (wr t) ++ l.drop (k + 1)) ++ v := by
  obtain ⟨h', e⟩ := wr_at t l k h
  rw [List.set_append_left _ _ (by rw [fl_len]; omega), fl_set _ k 2 (.int .i64 t) h' (by rw [e]; rfl) (by omega), e]
  have hp : put l[k] 2 (.int .i64 t) = wr t l[k] := rfl
  rw [hp, wr_set t l k h]

theorem below_set {w w' : World} {g j : Nat} (h : Below w.heap.size w w') (hg : w.heap.size ≤ g) (u : Value) : Below w.heap.size w (w'.setCell ⟨g, j, none⟩ u) := h.setCell hg u

set_option maxHeartbeats 2000000 in
theorem spec (t : Int) (b off n c : Nat) (l : List Rec) (w : World) (hs : Sr w w.heap.size (some ⟨b, off, none⟩) n l) (hn : n ≤ 400000000) : Calls Tryd.prog 21 #[.slice (some ⟨b, off, none⟩) n c, .int .i64 t] w (GivesL w (l.map (wr t))) := by
  have HN := Lib.hid hs.1
  have C := Lib.hid (copyS b off n c l w hs hn)
  clear hs
  go_enter Tryd.func21, Tryd.ntmps21
  go_wp2_with fail
  refine C.out.mono ?_
  rintro e w1 ⟨g, cp, r, rfl, hcap, hg, hb, hl⟩
  have B1 := Lib.hid hb
  have L1 := Lib.hid hl
  have G1 := Lib.hid hg
  clear hb hl hg C
  go_wp2
  go_loopw [6] (fun i wr' => ∃ k : Nat, k ≤ n ∧ i = .int .i64 k ∧ Hid (Bk wr' g 49 (fl ((l.take k).map (wr t) ++ l.drop k) ++ r)) ∧ Hid (Below w.heap.size w wr')) (fun i _ => n - (intOf i).toNat)
  case atStart => exact ⟨0, Nat.zero_le _, rfl, by simpa [Hid] using B1.out, L1.out⟩
  case round =>
    clear B1 L1
    obtain ⟨k, hk, rfl, HB, HL⟩ := hrel
    by_cases hlt : k < n
    · have hkl : k < l.length := by rw [HN.out]; exact hlt
      have HP := Lib.hid (put_ttl t l r k hkl)
      obtain ⟨h', e⟩ := wr_at t l k hkl
      have z2 := (bk_ce HB.out k h').2.2.1
      have f2 := HB.out.free (k * 6 + 2)
      clear e
      go_wp2
      go_roundw
      case rel =>
        refine ⟨k + 1, by omega, by go_num, ?_, ?_⟩
        · show Bk _ _ _ _
          rw [← HP.out]
          exact HB.out.set (k * 6 + 2) (.int .i64 t)
        · exact HL.out.setCell G1.out _
      case measure => simp [intOf]; omega
    · obtain rfl : n = k := by omega
      go_wp2
      go_ret
      refine ⟨g, n, cp, r, rfl, by rw [List.length_map, HN.out], hcap, G1.out, ?_, HL.out⟩
      have := HB.out
      rw [take_all HN.out, List.drop_eq_nil_of_le (by rw [HN.out]; exact Nat.le_refl _), List.append_nil] at this
      exact this

set_option maxHeartbeats 2000000 in
theorem impl (t : Int) (b off n c : Nat) (l : List Rec) (w : World) (hs : Sr w w.heap.size (some ⟨b, off, none⟩) n l) (hn : n ≤ 400000000) : Calls Tryd.prog 16 #[.slice (some ⟨b, off, none⟩) n c, .int .i64 t] w (GivesL w (l.map (wr t))) := by
  have HN := Lib.hid hs.1
  have C := Lib.hid (copyI b off n c l w hs hn)
  clear hs
  go_enter Tryd.func16, Tryd.ntmps16
  go_wp2_with fail
  refine C.out.mono ?_
  rintro e w1 ⟨g, cp, r, rfl, hcap, hg, hb, hl⟩
  have B1 := Lib.hid hb
  have L1 := Lib.hid hl
  have G1 := Lib.hid hg
  clear hb hl hg C
  go_wp2
  go_loopw [11] (fun i wr' => ∃ k : Nat, k ≤ n ∧ i = .int .i64 k ∧ Hid (Bk wr' g 49 (fl ((l.take k).map (wr t) ++ l.drop k) ++ r)) ∧ Hid (Below w.heap.size w wr')) (fun i _ => n - (intOf i).toNat)
  case atStart => exact ⟨0, Nat.zero_le _, rfl, by simpa [Hid] using B1.out, L1.out⟩
  case round =>
    clear B1 L1
    obtain ⟨k, hk, rfl, HB, HL⟩ := hrel
    by_cases hlt : k < n
    · have hkl : k < l.length := by rw [HN.out]; exact hlt
      have HP := Lib.hid (put_ttl t l r k hkl)
      obtain ⟨h', e⟩ := wr_at t l k hkl
      have z2 := (bk_ce HB.out k h').2.2.1
      have f2 := HB.out.free (k * 6 + 2)
      clear e
      go_wp2
      go_roundw
      case rel =>
        refine ⟨k + 1, by omega, by go_num, ?_, ?_⟩
        · show Bk _ _ _ _
          rw [← HP.out]
          exact HB.out.set (k * 6 + 2) (.int .i64 t)
        · exact HL.out.setCell G1.out _
      case measure => simp [intOf]; omega
    · obtain rfl : n = k := by omega
      go_wp2
      go_ret
      refine ⟨g, n, cp, r, rfl, by rw [List.length_map, HN.out], hcap, G1.out, ?_, HL.out⟩
      have := HB.out
      rw [take_all HN.out, List.drop_eq_nil_of_le (by rw [HN.out]; exact Nat.le_refl _), List.append_nil] at this
      exact this
end Go.Proofs.YtaahaepgabcebaaDoor.Wt
