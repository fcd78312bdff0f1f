/- What the law's own helper markStringS does, the marks from any number on. -/
import Derived.Test.YtkpcanigdppegaaMarkS
namespace Go.Proofs.Ytkpcanigdppegaa.MarkS2
open Go.RowKit Go.Proofs.Ytkpcanigdppegaa.Mem Go.Proofs.Ytkpcanigdppegaa.MemS Go.Proofs.Ytkpcanigdppegaa.MarkS

set_option maxHeartbeats 1000000 in
/-- markStringS on a block of the call's own, the marks from any number on. -/
theorem markStringS_from (q : Nat) (hq : 0 < q) (hq2 : q ≤ 10000000) (g n c : Nat) (l : List ByteArray) (r : List Value) (w : World) (hb : Bk w g 9 (l.map tv ++ r)) (hl : l.length = n) (hn : n ≤ 2000000) :
    Calls Try.prog 28 #[.slice (some ⟨g, 0, none⟩) n c, .int .i64 (q : Int)] w fun e w' => e = .returned (.int .i64 ((q : Int) + (n : Int))) ∧ Bk w' g 9 ((marks q n).map tv ++ r) ∧ w.grownBy w' (some g) := by
  have HB := Lib.hid hb
  have HL := Lib.hid hl
  have HC : Hid ((l.map tv ++ r).drop n = r) := by
    show _ = _
    rw [List.drop_append_of_le_length (by rw [List.length_map, hl]; omega), List.drop_eq_nil_of_le (by rw [List.length_map, hl]; omega), List.nil_append]
  have HX : Hid (∀ j, j < n → ∃ x : ByteArray, (l.map tv ++ r)[j]? = some (.string x)) := fun j hj => ⟨l[j]'(by omega), by
    rw [List.getElem?_append_left (by rw [List.length_map, hl]; exact hj), tv_get l j (by omega)]⟩
  have hle : Hid (n ≤ (l.map tv ++ r).length) := by show _ ≤ _; rw [List.length_append, List.length_map, hl]; omega
  clear hb hl
  generalize hcs : l.map tv ++ r = cs at *
  clear hcs
  go_enter Try.func28, Try.ntmps28
  go_wp2
  go_loopw [1, 5] (fun kk i wr => ∃ j u : Nat, j ≤ n ∧ i = .int .i64 j ∧ kk = .int .i64 (u : Int) ∧ Hid (u = q + j) ∧ Hid (Bk wr g 9 ((marks q j).map tv ++ cs.drop j)) ∧ Hid (w.grownBy wr (some g))) (fun _ i _ => n - (intOf i).toNat)
  case atStart => exact ⟨0, q, Nat.zero_le _, rfl, rfl, rfl, HB.out, World.grownBy.refl _ _⟩
  case round =>
    obtain ⟨j, u, hj, rfl, rfl, HU, HJ, HG⟩ := hrel
    have hu : u ≤ 12000001 := by have := HU.out; omega
    by_cases hlt : j < n
    · have hu0 : 0 < u := by have := HU.out; omega
      go_wp2_with fail
      refine (markText_any u hu0 (by omega) wr).mono ?_
      rintro e w1 ⟨rfl, hl1⟩
      have HJ1 := Lib.hid (HJ.out.below hl1 HJ.out.lt)
      have HG1 := Lib.hid (grown_trans HG.out (grown_of_below hl1 (some g)))
      clear hl1
      obtain ⟨x, hxx⟩ := HX.out j hlt
      have hx : w1.cell? ⟨g, j, none⟩ = some (.string x) := by
        have := hle.out
        rw [HJ1.out.cell, mark_at cs q j (by omega), ← hxx, List.getElem?_eq_getElem (by omega)]
      have hf : w1.frozen? ⟨g, j, none⟩ = false := HJ1.out.free j
      clear hxx
      go_wp2
      go_roundw
      case rel =>
        refine ⟨j + 1, u + 1, by omega, by go_num, by go_num, by show _ = _; rw [HU.out]; omega, ?_, grown_set HG1.out _ _⟩
        have := HJ1.out.set j (.string (Mt (q + j)))
        rw [mark_step cs q j n hlt hle.out, ← HU.out] at this
        exact this
      case measure => simp [intOf]; omega
    · obtain rfl : n = j := by omega
      go_wp2
      go_ret
      refine ⟨by rw [HU.out]; go_num, ?_, HG.out⟩
      have := HJ.out
      rw [HC.out] at this
      exact this


end Go.Proofs.Ytkpcanigdppegaa.MarkS2
